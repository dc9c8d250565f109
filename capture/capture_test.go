package capture

import (
	"bytes"
	"encoding/binary"
	"math"
	"math/rand"
	"slices"
	"testing"

	"umpire/api"
)

var (
	bothFormats  = []int{api.Pcap, api.Dump}
	bothOrders   = []binary.AppendByteOrder{binary.BigEndian, binary.LittleEndian}
	bothWidths   = []bool{false, true}
	otherFormats = []int{0, 3, 4, -1, -2, 257, 258, 1<<32 + 1, 1<<32 + 2, math.MaxInt, math.MinInt}
	otherDirs    = []int{0, 3, 4, -1, -2, 256, 257, 1<<32 + 1, math.MaxInt, math.MinInt}
	someMaps     = []uint32{0, 1, 1 << 3, 1 << 31, 0xa0000, 0x0000ffff, 0xffffffff}
)

func sameItem(a, b api.Item) bool {
	return a.Dir == b.Dir && a.Proto == b.Proto && bytes.Equal(a.Data, b.Data)
}

func sameItems(a, b []api.Item) bool {
	return slices.EqualFunc(a, b, sameItem)
}

// brief cuts a list of items down to what a message has room for.
func brief(l []api.Item) []api.Item {
	out := slices.Clone(l[:min(len(l), 8)])
	for i := range out {
		out[i].Data = out[i].Data[:min(len(out[i].Data), 16)]
	}
	return out
}

// checkRead holds what is read against the chapter's words.
func checkRead(t *testing.T, b []byte, format int, c api.Conf) {
	t.Helper()
	want, wantSpot := readByWords(b, format, c)
	if l, s := Read(b, format, c); !sameItems(l, want) || s != wantSpot {
		t.Errorf("Read(%.200x, %d, %+v): %v, %v and not %v, %v", b, format, c, brief(l), s, brief(want), wantSpot)
	}
}

// checkWrite holds what is written against the chapter's words, and what is read of it against what was written.
func checkWrite(t *testing.T, l []api.Item, format int, c api.Conf) {
	t.Helper()
	want, wantErr := writeByWords(l, format, c)
	b, e := Write(l, format, c)
	if !bytes.Equal(b, want) || e != wantErr {
		t.Errorf("Write(%v, %d, %+v): %.200x, %d and not %.200x, %d", brief(l), format, c, b, e, want, wantErr)
	}
	if e != api.OK {
		return
	}
	if k, s := Read(b, format, c); !sameItems(k, l) || s != (api.Spot{}) {
		t.Errorf("%v, written as %d by %+v, is read as %v, %v", brief(l), format, c, brief(k), s)
	}
}

// expect holds what is read against items that are written out.
func expect(t *testing.T, b []byte, format int, c api.Conf, want ...api.Item) {
	t.Helper()
	if l, s := Read(b, format, c); !sameItems(l, want) || s != (api.Spot{}) {
		t.Errorf("Read(%.200x, %d, %+v): %v, %v and not %v", b, format, c, brief(l), s, brief(want))
	}
	checkRead(t, b, format, c)
}

// someItems are right ones, of both directions, of all known protocols, and of the edges of each field.
func someItems() []api.Item {
	return []api.Item{
		{Dir: api.Out, Proto: api.Lcp, Data: []byte{1, 1, 0, 4}},
		{Dir: api.In, Proto: api.Lcp, Data: []byte{2, 1, 0, 4}},
		{Dir: api.In, Proto: api.Ip},
		{Dir: api.Out, Proto: api.Ip6, Data: []byte{0x7e}},
		{Dir: api.Out, Proto: api.Ipcp, Data: []byte{0x7d, 0x5e, 0x7d, 0x7e, 0x7e}},
		{Dir: api.In, Proto: api.Ip6c, Data: []byte{0, 1, 2, 3, 0x11, 0x13, 0x1f, 0x20, 0x7d, 0x7e, 0x7f, 0xff}},
		{Dir: api.Out, Proto: api.Pap, Data: []byte{0, 1, 2, 3, 0x11, 0x13, 0x1f, 0x20, 0x7d, 0x7e, 0x7f, 0xff}},
		{Dir: api.Out, Proto: api.Chap, Data: bytes.Repeat([]byte{0xff, 3, 0xc0, 0x21}, 70)},
		{Dir: api.In, Proto: 1, Data: []byte{0xff, 3}},
		{Dir: api.In, Proto: 0xfeff, Data: make([]byte, 40)},
		{Dir: api.Out, Proto: 0xfd, Data: []byte{0x21}},
		{Dir: api.In, Proto: 0x7e7d},
		{Dir: api.Out, Proto: 0x0201},
	}
}

// itemsThatMayNotBe has each way in which an item may not be.
func itemsThatMayNotBe() []api.Item {
	var l []api.Item
	for _, dir := range otherDirs {
		l = append(l, api.Item{Dir: dir, Proto: api.Lcp}, api.Item{Dir: dir, Proto: api.Ip, Data: []byte{1, 2}})
	}
	for _, proto := range []int{0, 2, 0x20, 0xfe, 0xff, 0x100, 0x101, 0x1ff, 0xc020, 0xc121, 0xffff, 0x10000, 0x10021, 0x1c021, -1, -0x21, math.MaxInt, math.MinInt} {
		l = append(l, api.Item{Dir: api.In, Proto: proto}, api.Item{Dir: api.Out, Proto: proto, Data: []byte{1}})
	}
	for _, dir := range []int{api.In, api.Out} {
		l = append(l, api.Item{Dir: dir, Proto: api.Ip, Data: make([]byte, api.MaxData+1)}, api.Item{Dir: dir, Proto: api.Ip, Data: make([]byte, 1<<17)})
	}
	return append(l, api.Item{})
}

func someConfs() []api.Conf {
	var l []api.Conf
	for _, m := range someMaps {
		for _, wide := range bothWidths {
			l = append(l, api.Conf{Accm: m, Wide: wide, Dir: api.Out})
		}
	}
	return l
}

func TestExample(t *testing.T) { // P11.2
	for _, order := range bothOrders {
		b := pcapByWords(order, api.LinkDir, []byte{0, 0xc0, 0x21, 1, 1, 0, 4})
		expect(t, b, api.Pcap, api.Conf{}, api.Item{Dir: api.In, Proto: api.Lcp, Data: []byte{1, 1, 0, 4}})
	}
}

func TestMay(t *testing.T) { // P11.1
	for _, x := range someItems() {
		if !May(x) {
			t.Errorf("May(%v): false", x)
		}
	}
	for _, x := range itemsThatMayNotBe() {
		if May(x) {
			t.Errorf("May of the Dir %d, the Proto %x and %d bytes: true", x.Dir, x.Proto, len(x.Data))
		}
	}
}

func TestMayOfLengths(t *testing.T) { // P11.1
	for _, dir := range []int{api.In, api.Out} {
		for n, want := range map[int]bool{0: true, 1: true, 1500: true, 65530: true, 65531: true, 65532: false, 65533: false, 65535: false, 65536: false, 65537: false, 1 << 20: false} {
			if got := May(api.Item{Dir: dir, Proto: api.Ip, Data: make([]byte, n)}); got != want {
				t.Errorf("May of %d bytes: %v", n, got)
			}
		}
		// The room behind the length is not Data.
		if !May(api.Item{Dir: dir, Proto: api.Ip, Data: make([]byte, api.MaxData, 1<<17)}) {
			t.Error("May goes by the room behind Data")
		}
	}
}

func TestMayOfEveryProtocol(t *testing.T) { // P11.1
	for proto := -70000; proto < 140000; proto++ {
		for dir := -1; dir <= 4; dir++ {
			x := api.Item{Dir: dir, Proto: proto}
			if May(x) != mayByWords(x) {
				t.Fatalf("May(%v): %v", x, May(x))
			}
		}
	}
}

// TestEachLink reads the same records of each link, whose first byte is a direction of one of them alone.
func TestEachLink(t *testing.T) { // P11.2
	for _, order := range bothOrders {
		records := [][]byte{{0x21, 9}, {0xff, 3, 0xc0, 0x21}, nil, {0xc0}, {0xff, 4, 0x21}, {0, 0x21, 5}, {1, 0x57, 6}}
		for _, link := range []uint32{api.LinkPpp, api.LinkSerial} {
			expect(t, pcapByWords(order, link, records...), api.Pcap, api.Conf{Dir: api.In},
				api.Item{Dir: api.In, Proto: api.Ip, Data: []byte{9}}, api.Item{Dir: api.In, Proto: api.Lcp}, api.Item{Dir: api.In, Proto: api.Ip, Data: []byte{5}}, api.Item{Dir: api.In, Proto: 1, Data: []byte{0x57, 6}})
		}
		expect(t, pcapByWords(order, api.LinkDir, records...), api.Pcap, api.Conf{Dir: api.In},
			api.Item{Dir: api.Out, Proto: 9}, api.Item{Dir: api.Out, Proto: 3, Data: []byte{0xc0, 0x21}}, api.Item{Dir: api.Out, Proto: 0x421}, api.Item{Dir: api.In, Proto: api.Ip, Data: []byte{5}}, api.Item{Dir: api.Out, Proto: api.Ip6, Data: []byte{6}})
	}
}

// TestOtherLinks puts records behind the header that would be items on a link that is read.
func TestOtherLinks(t *testing.T) { // P11.2
	for _, order := range bothOrders {
		for _, link := range []uint32{0, 1, 8, 10, 49, 51, 100, 203, 205, 255, 256 + 9, 256 + 50, 256 + 204, 9 << 8, 9 << 24, 50 << 24, 204 << 24, 1<<16 + 204, 1<<31 + 9, math.MaxUint32} {
			for _, records := range [][][]byte{nil, {{0, 0x21, 9}}, {{0x21}, {0xff, 3, 0xc0, 0x21, 1, 1, 0, 4}}} {
				b := pcapByWords(order, link, records...)
				if l, s := Read(b, api.Pcap, api.Conf{Dir: api.In}); len(l) != 0 || s != (api.Spot{At: 20, Err: api.ErrKind}) {
					t.Errorf("Read of the link %d: %v, %v", link, l, s)
				}
			}
		}
	}
}

// TestPcapFaultIsFirst holds that of a capture with a fault and a link that isn't read the fault is told.
func TestPcapFaultIsFirst(t *testing.T) { // P11.2, rule 2
	for _, link := range []uint32{1, api.LinkPpp, api.LinkSerial, api.LinkDir} {
		right := pcapByWords(binary.BigEndian, link, []byte{0, 0x21, 9})
		long := binary.BigEndian.AppendUint32(make([]byte, 8), api.MaxRecord+1)
		for _, x := range []struct {
			b    []byte
			want api.Spot
		}{
			{nil, api.Spot{Err: api.ErrEnd}},
			{right[:3], api.Spot{Err: api.ErrEnd}},
			{right[:23], api.Spot{Err: api.ErrEnd}},
			{right[1:], api.Spot{Err: api.ErrForm}},
			{slices.Concat(right[:5], []byte{3}, right[6:]), api.Spot{Err: api.ErrForm}},
			{right[:25], api.Spot{At: 24, Err: api.ErrEnd}},
			{right[:len(right)-1], api.Spot{At: 24, Err: api.ErrEnd}},
			{slices.Concat(right, []byte{1}), api.Spot{At: 43, Err: api.ErrEnd}},
			{slices.Concat(right, long, make([]byte, 4)), api.Spot{At: 43, Err: api.ErrLong}},
		} {
			if l, s := Read(x.b, api.Pcap, api.Conf{Dir: api.In}); len(l) != 0 || s != x.want {
				t.Errorf("Read(%x): %v, %v and not %v", x.b, l, s, x.want)
			}
		}
	}
}

// TestEachPieceOfACapture cuts a capture off at each of its bytes.
func TestEachPieceOfACapture(t *testing.T) { // P11.2
	for _, order := range bothOrders {
		for _, link := range []uint32{api.LinkPpp, api.LinkSerial, api.LinkDir, 77} {
			b := pcapByWords(order, link, []byte{0, 0x21, 9}, nil, []byte{0xff, 3, 0xc0, 0x21, 1, 1, 0, 4}, []byte{1, 0x57})
			for n := range len(b) + 1 {
				checkRead(t, b[:n], api.Pcap, api.Conf{Dir: api.Out})
			}
		}
	}
}

// TestNumbersThatMayBeAny turns what a header and a record tell of times and lengths.
func TestNumbersThatMayBeAny(t *testing.T) { // P11.2
	b := pcapByWords(binary.BigEndian, api.LinkDir, []byte{0, 0x21, 9})
	want := api.Item{Dir: api.In, Proto: api.Ip, Data: []byte{9}}
	for _, at := range []int{6, 7, 8, 11, 12, 15, 16, 19, 24, 27, 28, 31, 36, 39} {
		turned := bytes.Clone(b)
		turned[at] ^= 0xff
		expect(t, turned, api.Pcap, api.Conf{}, want)
	}
	nano := slices.Concat([]byte{0xa1, 0xb2, 0x3c, 0x4d}, b[4:])
	expect(t, nano, api.Pcap, api.Conf{}, want)
}

func TestFirstByteOnLinkDir(t *testing.T) { // P11.2
	for c := range 256 {
		dir := api.Out
		if c == 0 {
			dir = api.In
		}
		for _, conf := range []api.Conf{{}, {Dir: api.In}, {Dir: api.Out}, {Dir: 77}} {
			b := pcapByWords(binary.LittleEndian, api.LinkDir, []byte{byte(c), 0x21}, nil, []byte{byte(c)}, []byte{byte(c), 0xff, 3, 0xc2, 0x23, 8, 9})
			expect(t, b, api.Pcap, conf, api.Item{Dir: dir, Proto: api.Ip}, api.Item{Dir: dir, Proto: api.Chap, Data: []byte{8, 9}})
		}
	}
}

func TestDirOfTheConfig(t *testing.T) { // P11.2
	for _, link := range []uint32{api.LinkPpp, api.LinkSerial} {
		for _, dir := range append([]int{api.In, api.Out}, otherDirs...) {
			b := pcapByWords(binary.BigEndian, link, []byte{0x21}, []byte{0xff, 3, 0xc0, 0x23, 7})
			expect(t, b, api.Pcap, api.Conf{Dir: dir}, api.Item{Dir: dir, Proto: api.Ip}, api.Item{Dir: dir, Proto: api.Pap, Data: []byte{7}})
		}
	}
}

// noProtocol are frames of which no protocol is told.
var noProtocol = [][]byte{nil, {}, {0xff}, {0xff, 3}, {0xff, 4, 0x21}, {0xff, 0xff, 0x21}, {0xff, 3, 0xff}, {0xff, 3, 0xff, 3, 0x21}, {0}, {0xc0}, {0xff, 3, 0xc0}, {0xc0, 0x20}, {0, 0xff}, {0, 0}, {0xff, 3, 0, 0xff, 5, 6}, {0xc0, 0x20, 1, 1}}

func TestFramesWithoutProtocol(t *testing.T) { // P11.2
	right := []byte{0x21, 4}
	for _, f := range noProtocol {
		for _, link := range []uint32{api.LinkPpp, api.LinkSerial} {
			want := api.Item{Dir: api.Out, Proto: api.Ip, Data: []byte{4}}
			expect(t, pcapByWords(binary.BigEndian, link, right, f, right), api.Pcap, api.Conf{Dir: api.Out}, want, want)
		}
		for i, dir := range []int{api.In, api.Out} {
			mark := []byte{byte(i)}
			want := api.Item{Dir: dir, Proto: api.Ip, Data: []byte{4}}
			b := pcapByWords(binary.BigEndian, api.LinkDir, slices.Concat(mark, right), slices.Concat(mark, f), slices.Concat(mark, right))
			expect(t, b, api.Pcap, api.Conf{}, want, want)
		}
		for _, wide := range bothWidths {
			good := putByWords(right, 0, wide)
			want := api.Item{Dir: api.In, Proto: api.Ip, Data: []byte{4}}
			expect(t, noteByWords(api.DmIn, slices.Concat(good, putByWords(f, 0, wide), good)), api.Dump, api.Conf{Wide: wide}, want, want)
		}
	}
}

// TestDataBeyondTheLimit holds that what is read is told as it is, however long.
func TestDataBeyondTheLimit(t *testing.T) { // P11.2
	for _, n := range []int{api.MaxData - 1, api.MaxData, api.MaxData + 1, 65534, 65535, 65536, api.MaxRecord - 1} {
		data := bytes.Repeat([]byte{0x2a}, n)
		expect(t, pcapByWords(binary.LittleEndian, api.LinkPpp, append([]byte{0x21}, data...)), api.Pcap, api.Conf{Dir: api.In}, api.Item{Dir: api.In, Proto: api.Ip, Data: data})
	}
	for _, n := range []int{api.MaxData, api.MaxData + 1, 65534} {
		data := bytes.Repeat([]byte{0x2a}, n)
		f := putByWords(append([]byte{0x21}, data...), 0, false)
		b := slices.Concat(noteByWords(api.DmIn, f[:40000]), noteByWords(api.DmIn, f[40000:]))
		expect(t, b, api.Dump, api.Conf{}, api.Item{Dir: api.In, Proto: api.Ip, Data: data})
	}
}

func TestDumpFault(t *testing.T) { // P11.2
	good := noteByWords(api.DmIn, putByWords([]byte{0x21, 4}, 0, false))
	for _, x := range []struct {
		behind []byte
		want   api.Errno
	}{
		{[]byte{0}, api.ErrKind}, {[]byte{8}, api.ErrKind}, {[]byte{255, 0, 0}, api.ErrKind}, {[]byte{1}, api.ErrEnd}, {[]byte{2, 0}, api.ErrEnd}, {[]byte{1, 0, 1}, api.ErrEnd},
		{[]byte{5, 0, 0, 0}, api.ErrEnd}, {[]byte{6}, api.ErrEnd}, {[]byte{7, 1}, api.ErrEnd},
	} {
		for _, ahead := range [][]byte{nil, good, slices.Concat(good, []byte{3, 4}, good)} {
			if l, s := Read(slices.Concat(ahead, x.behind), api.Dump, api.Conf{}); len(l) != 0 || s != (api.Spot{At: len(ahead), Err: x.want}) {
				t.Errorf("Read of a dump with %v at %d: %v, %v", x.behind, len(ahead), l, s)
			}
		}
	}
	for _, none := range [][]byte{nil, {}} {
		expect(t, none, api.Dump, api.Conf{})
	}
}

func TestEachPieceOfADump(t *testing.T) { // P11.2
	for _, c := range someConfs() {
		b, _ := writeByWords(someItems()[:6], api.Dump, c)
		b = append(b, 3, 4, 6, 9, 5, 1, 2, 3, 4)
		for n := range len(b) + 1 {
			checkRead(t, b[:n], api.Dump, c)
		}
	}
}

// TestFramesOverNotes cuts a frame at each two places, with notes of the other direction and of time between.
func TestFramesOverNotes(t *testing.T) { // P11.2
	kinds := map[int]int{api.In: api.DmIn, api.Out: api.DmOut}
	body := []byte{0x21, 1, 0x7e, 2}
	for dir, kind := range kinds {
		other := api.In + api.Out - dir
		want := api.Item{Dir: dir, Proto: api.Ip, Data: body[1:]}
		for _, wide := range bothWidths {
			c := api.Conf{Wide: wide}
			f := putByWords(body, 0, wide)
			otherNote := noteByWords(kinds[other], putByWords([]byte{0x57}, 0, wide))
			short := noteByWords(kinds[other], putByWords([]byte{0x57, 3}, 0, wide))
			otherItem := api.Item{Dir: other, Proto: api.Ip6, Data: []byte{3}}
			for i := range len(f) + 1 {
				for j := i; j <= len(f); j++ {
					pieces := [][]byte{noteByWords(kind, f[:i]), noteByWords(kind, f[i:j]), noteByWords(kind, f[j:])}
					for _, between := range [][]byte{nil, {6, 9}, {5, 0, 0, 0, 1, 7, 1, 2, 3, 4}, otherNote} {
						expect(t, slices.Concat(pieces[0], between, pieces[1], between, pieces[2]), api.Dump, c, want)
					}
					// What comes of a note stands where its frame ends, not where it begins.
					wants := []api.Item{otherItem, otherItem, want}
					switch len(f) {
					case i:
						wants = []api.Item{want, otherItem, otherItem}
					case j:
						wants = []api.Item{otherItem, want, otherItem}
					}
					expect(t, slices.Concat(pieces[0], short, pieces[1], short, pieces[2]), api.Dump, c, wants...)
				}
			}
		}
	}
}

func TestFramesByteByByte(t *testing.T) { // P11.2, P11.4
	for _, c := range someConfs() {
		var b []byte
		for _, x := range someItems() {
			one, _ := writeByWords([]api.Item{x}, api.Dump, c)
			for _, d := range one[3:] {
				b = append(b, noteByWords(int(one[0]), []byte{d})...)
				b = append(b, api.DmShort, 1)
			}
		}
		expect(t, b, api.Dump, c, someItems()...)
	}
}

func TestSeveralFramesInANote(t *testing.T) { // P11.2
	for _, wide := range bothWidths {
		var sent, came []byte
		var wantSent, wantCame []api.Item
		for _, x := range someItems() {
			f := putByWords(frameOfByWords(x), 0, wide)
			// One flag may end a frame and begin the next one, or there are two, or more.
			sent = append(bytes.TrimSuffix(sent, []byte{0x7e}), f...)
			came = append(append(came, 0x7e, 0x7e), f...)
			x.Dir = api.Out
			wantSent = append(wantSent, x)
			x.Dir = api.In
			wantCame = append(wantCame, x)
		}
		b := slices.Concat(noteByWords(api.DmOut, sent), noteByWords(api.DmIn, came), noteByWords(api.DmOut, nil))
		expect(t, b, api.Dump, api.Conf{Wide: wide}, append(wantSent, wantCame...)...)
		b = slices.Concat(noteByWords(api.DmIn, append([]byte("ahead of the first flag"), came...)), noteByWords(api.DmOut, append(sent, 5, 6, 7)))
		expect(t, b, api.Dump, api.Conf{Wide: wide}, append(wantCame, wantSent...)...)
	}
}

// TestEnds cuts a frame of each direction by each kind of end.
func TestEnds(t *testing.T) { // P11.2
	f := putByWords([]byte{0x21, 1, 2}, 0, false)
	sent := api.Item{Dir: api.Out, Proto: api.Ip, Data: []byte{1, 2}}
	came := sent
	came.Dir = api.In
	for n := 1; n < len(f); n++ {
		for _, x := range []struct {
			ends []byte
			want []api.Item
		}{
			{nil, []api.Item{sent, came}}, {[]byte{api.DmEnd}, []api.Item{came}}, {[]byte{api.DmEndIn}, []api.Item{sent}},
			{[]byte{api.DmEnd, api.DmEndIn}, nil}, {[]byte{api.DmEndIn, api.DmEnd}, nil}, {[]byte{api.DmEnd, api.DmEnd}, []api.Item{came}}, {[]byte{api.DmEndIn, api.DmEndIn}, []api.Item{sent}},
		} {
			b := slices.Concat(noteByWords(api.DmOut, f[:n]), noteByWords(api.DmIn, f[:n]), x.ends, noteByWords(api.DmOut, f[n:]), noteByWords(api.DmIn, f[n:]))
			expect(t, b, api.Dump, api.Conf{}, x.want...)
		}
	}
}

// TestNewStreamBehindAnEnd holds that an end doesn't end what can be read: also its map and its width go on.
func TestNewStreamBehindAnEnd(t *testing.T) { // P11.2
	for _, c := range someConfs() {
		var b []byte
		var want []api.Item
		for _, ends := range [][]byte{nil, {3}, {4}, {3, 4}, {4, 3, 3}, {3, 6, 1, 4}} {
			b = append(b, ends...)
			one, _ := writeByWords(someItems(), api.Dump, c)
			b = append(b, one...)
			want = append(want, someItems()...)
		}
		expect(t, b, api.Dump, c, want...)
	}
	// The flag that ended the last frame ahead of an end begins none behind it.
	f := putByWords([]byte{0x21, 1, 2}, 0, false)
	x := api.Item{Dir: api.Out, Proto: api.Ip, Data: []byte{1, 2}}
	expect(t, slices.Concat(noteByWords(1, f), []byte{3}, noteByWords(1, f[1:])), api.Dump, api.Conf{}, x)
	expect(t, slices.Concat(noteByWords(1, f), []byte{4}, noteByWords(1, f[1:])), api.Dump, api.Conf{}, x, x)
}

func TestFramesThatAreNotGood(t *testing.T) { // P11.2
	body := []byte{0x21, 1, 2}
	for _, wide := range bothWidths {
		good := putByWords(body, 0, wide)
		wrong := bytes.Clone(good)
		wrong[2] ^= 1
		aborted := slices.Concat(good[:len(good)-1], []byte{0x7d, 0x7e})
		short := putByWords([]byte{0x21}, 0, wide)
		long := putByWords(append([]byte{0x21}, make([]byte, longest)...), 0, wide)
		for _, f := range [][]byte{wrong, aborted, short, putByWords(nil, 0, wide), long, {0x7e, 0x7e}, {0x7e, 0x21, 0x7e}, putByWords(body, 0, !wide)} {
			for kind, dir := range map[int]int{api.DmOut: api.Out, api.DmIn: api.In} {
				want := api.Item{Dir: dir, Proto: api.Ip, Data: []byte{1, 2}}
				var b []byte
				for _, stream := range [][]byte{good, f, good} {
					for piece := range slices.Chunk(stream, longest) {
						b = append(b, noteByWords(kind, piece)...)
					}
				}
				expect(t, b, api.Dump, api.Conf{Wide: wide}, want, want)
			}
		}
	}
}

// TestLongestFrame reads the longest body that is good, which is just that of the longest Data in full.
func TestLongestFrame(t *testing.T) { // P11.2, P11.3, P11.4
	for _, wide := range bothWidths {
		for _, dir := range []int{api.In, api.Out} {
			for _, fill := range []byte{0, 0x41, 0x7e} {
				for _, n := range []int{api.MaxData - 1, api.MaxData} {
					x := api.Item{Dir: dir, Proto: api.Lcp, Data: bytes.Repeat([]byte{fill}, n)}
					for _, format := range bothFormats {
						checkWrite(t, []api.Item{x}, format, api.Conf{Wide: wide, Accm: 1})
						checkWrite(t, []api.Item{{Dir: api.In, Proto: api.Ip}, x, x, {Dir: api.Out, Proto: api.Ip}}, format, api.Conf{Wide: wide, Accm: 0xffffffff})
					}
				}
			}
		}
	}
}

// TestMapOfEachDirection puts a character, bare, into a frame of each direction: it is left out of what came alone.
func TestMapOfEachDirection(t *testing.T) { // P11.2
	f := putByWords([]byte{0x21, 0x41}, 0xffffffff, false)
	with := slices.Concat(f[:2], []byte{5}, f[2:])
	for _, x := range []struct {
		kind int
		m    uint32
		many int
	}{
		{api.DmIn, 1 << 5, 1}, {api.DmIn, 0xffffffff, 1}, {api.DmIn, 0, 0}, {api.DmIn, ^uint32(1 << 5), 0},
		{api.DmOut, 1 << 5, 0}, {api.DmOut, 0xffffffff, 0}, {api.DmOut, 0, 0},
	} {
		// An end leaves the map as it is.
		for _, ends := range [][]byte{nil, {api.DmEnd}, {api.DmEndIn}, {api.DmEnd, api.DmEndIn}} {
			b := append(ends, noteByWords(x.kind, with)...)
			if l, s := Read(b, api.Dump, api.Conf{Accm: x.m}); len(l) != x.many || s != (api.Spot{}) {
				t.Errorf("Read of the Kind %d, behind %v, by the map %x: %v, %v", x.kind, ends, x.m, l, s)
			}
			checkRead(t, b, api.Dump, api.Conf{Accm: x.m})
		}
	}
	// A character that is sent bare is itself, whatever the config's map is.
	bare := putByWords([]byte{0x21, 0x05}, 0, false)
	expect(t, noteByWords(api.DmOut, bare), api.Dump, api.Conf{Accm: 0xffffffff}, api.Item{Dir: api.Out, Proto: api.Ip, Data: []byte{5}})
	expect(t, noteByWords(api.DmIn, bare), api.Dump, api.Conf{Accm: 0xffffffff})
}

func TestOtherFormats(t *testing.T) { // P11.2, P11.3
	pcapBytes, _ := writeByWords(someItems(), api.Pcap, api.Conf{})
	dumpBytes, _ := writeByWords(someItems(), api.Dump, api.Conf{})
	for _, format := range otherFormats {
		for _, b := range [][]byte{nil, {}, {9}, pcapBytes, dumpBytes, pcapBytes[:30]} {
			if l, s := Read(b, format, api.Conf{Dir: api.In}); len(l) != 0 || s != (api.Spot{Err: api.ErrKind}) {
				t.Errorf("Read of the format %d: %v, %v", format, l, s)
			}
		}
		for _, l := range [][]api.Item{nil, {}, someItems(), {{}}, itemsThatMayNotBe(), append(someItems(), api.Item{})} {
			if b, e := Write(l, format, api.Conf{}); len(b) != 0 || e != api.ErrKind {
				t.Errorf("Write of the format %d: %v, %d", format, b, e)
			}
		}
	}
}

// TestOneFormatIsNotTheOther reads each format's capture as the other one's.
func TestOneFormatIsNotTheOther(t *testing.T) { // P11.2
	pcapBytes, _ := writeByWords(someItems(), api.Pcap, api.Conf{})
	dumpBytes, _ := writeByWords(someItems(), api.Dump, api.Conf{})
	if l, s := Read(pcapBytes, api.Dump, api.Conf{}); len(l) != 0 || s != (api.Spot{Err: api.ErrKind}) {
		t.Errorf("Read of pcap's format as a dump: %v, %v", l, s)
	}
	if l, s := Read(dumpBytes, api.Pcap, api.Conf{}); len(l) != 0 || s != (api.Spot{Err: api.ErrForm}) {
		t.Errorf("Read of a dump as pcap's format: %v, %v", l, s)
	}
}

func TestWritePcap(t *testing.T) { // P11.3
	head := []byte{0xd4, 0xc3, 0xb2, 0xa1, 2, 0, 4, 0, 0, 0, 0, 0, 0, 0, 0, 0, 0xff, 0xff, 0, 0, 204, 0, 0, 0}
	first := []byte{0, 0, 0, 0, 0, 0, 0, 0, 9, 0, 0, 0, 9, 0, 0, 0, 0, 0xff, 3, 0xc0, 0x21, 1, 1, 0, 4}
	second := []byte{1, 0, 0, 0, 0, 0, 0, 0, 5, 0, 0, 0, 5, 0, 0, 0, 1, 0xff, 3, 0, 0x21}
	want := slices.Concat(head, first, second)
	l := []api.Item{{Dir: api.In, Proto: api.Lcp, Data: []byte{1, 1, 0, 4}}, {Dir: api.Out, Proto: api.Ip}}
	for _, c := range []api.Conf{{}, {Dir: api.In, Accm: 0xffffffff, Wide: true}} {
		if b, e := Write(l, api.Pcap, c); !bytes.Equal(b, want) || e != api.OK {
			t.Errorf("Write: %x, %d", b, e)
		}
	}
}

// TestWriteDump holds a dump's bytes against some that are written out, check sequences aside.
func TestWriteDump(t *testing.T) { // P11.3
	l := []api.Item{{Dir: api.In, Proto: api.Lcp, Data: []byte{1}}, {Dir: api.Out, Proto: api.Lcp, Data: []byte{1}}}
	sum := sealByWords([]byte{0xff, 3, 0xc0, 0x21, 1}, false)[5:]
	want := slices.Concat([]byte{2, 0, 11, 0x7e, 0xff, 0x7d, 0x23, 0xc0, 0x21, 0x7d, 0x21}, sum, []byte{0x7e}, []byte{1, 0, 9, 0x7e, 0xff, 3, 0xc0, 0x21, 1}, sum, []byte{0x7e})
	// Both 1 and 3 are told apart of what comes, where the map has them; of what is sent, nothing is but 7d and 7e.
	if b, e := Write(l, api.Dump, api.Conf{Accm: 1<<1 | 1<<3}); !bytes.Equal(b, want) || e != api.OK {
		t.Errorf("Write: %x, %d and not %x", b, e, want)
	}
	wide := sealByWords([]byte{0xff, 3, 0xc0, 0x21, 1}, true)[5:]
	want = slices.Concat([]byte{2, 0, 11, 0x7e, 0xff, 3, 0xc0, 0x21, 1}, wide, []byte{0x7e}, []byte{1, 0, 11, 0x7e, 0xff, 3, 0xc0, 0x21, 1}, wide, []byte{0x7e})
	if b, e := Write(l, api.Dump, api.Conf{Wide: true}); !bytes.Equal(b, want) || e != api.OK {
		t.Errorf("Write: %x, %d and not %x", b, e, want)
	}
}

func TestWriteOfNoItems(t *testing.T) { // P11.3, P11.4
	for _, none := range [][]api.Item{nil, {}} {
		for _, c := range someConfs() {
			want := pcapByWords(binary.LittleEndian, 204)
			if b, e := Write(none, api.Pcap, c); !bytes.Equal(b, want) || e != api.OK {
				t.Errorf("Write of no items: %x, %d", b, e)
			}
			if b, e := Write(none, api.Dump, c); len(b) != 0 || e != api.OK {
				t.Errorf("Write of no items: %x, %d", b, e)
			}
			checkWrite(t, none, api.Pcap, c)
			checkWrite(t, none, api.Dump, c)
		}
	}
}

func TestWrite(t *testing.T) { // P11.3, P11.4
	every := someItems()
	for _, format := range bothFormats {
		for _, c := range someConfs() {
			for n := range len(every) + 1 {
				checkWrite(t, every[:n], format, c)
				checkWrite(t, every[n:], format, c)
			}
			for _, a := range every {
				for _, b := range every {
					checkWrite(t, []api.Item{a, b}, format, c)
				}
			}
		}
	}
}

func TestWriteOfEveryProtocol(t *testing.T) { // P11.3, P11.4
	for proto := 0; proto < 0x10002; proto++ {
		x := api.Item{Dir: 1 + proto/2%2, Proto: proto, Data: []byte{byte(proto), 7}}
		for _, format := range bothFormats {
			if b, e := Write([]api.Item{x}, format, api.Conf{}); (e == api.OK) != mayByWords(x) || e != api.OK && (len(b) != 0 || e != api.ErrArg) {
				t.Fatalf("Write of the protocol %x: %x, %d", proto, b, e)
			}
			if proto%2 == 1 {
				checkWrite(t, []api.Item{x}, format, api.Conf{Accm: 0xffffffff})
			}
		}
	}
}

// TestEmptyDataIsNone holds that an empty list of Data is as none.
func TestEmptyDataIsNone(t *testing.T) { // P11.1, P11.3, rule 5
	for _, format := range bothFormats {
		want, _ := writeByWords([]api.Item{{Dir: api.In, Proto: api.Ip}}, format, api.Conf{})
		for _, none := range [][]byte{nil, {}, make([]byte, 0, 9)} {
			x := api.Item{Dir: api.In, Proto: api.Ip, Data: none}
			if b, e := Write([]api.Item{x}, format, api.Conf{}); !bytes.Equal(b, want) || e != api.OK || !May(x) {
				t.Errorf("Write of empty Data: %x, %d", b, e)
			}
		}
	}
}

// TestWriteOfItemsThatMayNotBe puts each of them alone and at each place among right ones.
func TestWriteOfItemsThatMayNotBe(t *testing.T) { // P11.3
	every := someItems()
	for _, x := range itemsThatMayNotBe() {
		for _, format := range bothFormats {
			if b, e := Write([]api.Item{x}, format, api.Conf{}); len(b) != 0 || e != api.ErrArg {
				t.Errorf("Write of the Dir %d, the Proto %x and %d bytes: %.40x, %d", x.Dir, x.Proto, len(x.Data), b, e)
			}
			for at := range len(every) + 1 {
				if b, e := Write(slices.Insert(slices.Clone(every), at, x), format, api.Conf{Wide: true}); len(b) != 0 || e != api.ErrArg {
					t.Errorf("Write with the Dir %d, the Proto %x and %d bytes at %d: %.40x, %d", x.Dir, x.Proto, len(x.Data), at, b, e)
				}
			}
		}
	}
}

// notesOf answers how many bytes each note has, and of which Kind all are; -1, if they are of several.
func notesOf(t *testing.T, b []byte) ([]int, int) {
	t.Helper()
	notes, s := notesByWords(b)
	if s != (api.Spot{}) {
		t.Fatalf("what was written is no dump: %v", s)
	}
	var sizes []int
	kind := 0
	for i, n := range notes {
		sizes = append(sizes, len(n.Data))
		if i > 0 && n.Kind != kind {
			return sizes, -1
		}
		kind = n.Kind
	}
	return sizes, kind
}

// TestNotesAreFew writes a frame of just as many bytes as is said.
func TestNotesAreFew(t *testing.T) { // P11.3
	for _, wide := range bothWidths {
		for _, dir := range []int{api.In, api.Out} {
			for _, x := range []struct {
				size  int
				notes []int
			}{
				{20, []int{20}}, {65534, []int{65534}}, {65535, []int{65535}}, {65536, []int{65535, 1}}, {65537, []int{65535, 2}}, {100000, []int{65535, 34465}},
				{131069, []int{65535, 65534}}, {131070, []int{65535, 65535}}, {131071, []int{65535, 65535, 1}},
			} {
				item := itemOfSize(t, x.size, dir, wide)
				b, e := Write([]api.Item{item}, api.Dump, api.Conf{Wide: wide})
				sizes, kind := notesOf(t, b)
				wantKind := map[int]int{api.In: api.DmIn, api.Out: api.DmOut}[dir]
				if e != api.OK || !slices.Equal(sizes, x.notes) || kind != wantKind {
					t.Errorf("Write of a frame of %d bytes: notes of %v, of the Kind %d", x.size, sizes, kind)
				}
				checkWrite(t, []api.Item{item, item}, api.Dump, api.Conf{Wide: wide})
			}
		}
	}
}

// itemOfSize answers an item whose frame has, stuffed by the map 0, so many bytes: some of its Data are flags, which are
// two each, and the rest is one by which the check sequence isn't stuffed.
func itemOfSize(t *testing.T, size, dir int, wide bool) api.Item {
	t.Helper()
	// Two flags, address and control, a protocol that is stuffed, and the check sequence.
	rest := size - 2 - 2 - 4 - 2
	if wide {
		rest -= 2
	}
	n := min(rest, api.MaxData)
	flags := bytes.Repeat([]byte{0x7e}, rest-n)
	for fill := range 0x7d {
		data := slices.Concat(flags, bytes.Repeat([]byte{byte(fill)}, n-len(flags)))
		x := api.Item{Dir: dir, Proto: 0x7e7d, Data: data}
		if len(putByWords(frameOfByWords(x), 0, wide)) == size {
			return x
		}
	}
	t.Fatalf("no Data was found by which a frame has %d bytes", size)
	return api.Item{}
}

// TestEachItemHasItsNotes holds that a note that isn't full isn't filled by the next item.
func TestEachItemHasItsNotes(t *testing.T) { // P11.3
	x := api.Item{Dir: api.Out, Proto: api.Ip, Data: []byte("ab")}
	long := api.Item{Dir: api.Out, Proto: api.Ip, Data: bytes.Repeat([]byte{0x7e}, api.MaxData)}
	b, _ := Write([]api.Item{x, x, long, x}, api.Dump, api.Conf{})
	one := len(putByWords(frameOfByWords(x), 0, false))
	rest := len(putByWords(frameOfByWords(long), 0, false)) - 2*longest
	want := []int{one, one, longest, longest, rest, one}
	if rest == 0 {
		want = slices.Delete(want, 4, 5)
	}
	if sizes, kind := notesOf(t, b); !slices.Equal(sizes, want) || kind != api.DmOut {
		t.Errorf("notes of %v, of the Kind %d, and not %v", sizes, kind, want)
	}
}

// TestWhatElseAConfigHas holds that nothing but Dir, Accm and Wide counts.
func TestWhatElseAConfigHas(t *testing.T) { // P11.2, P11.3
	full := api.Conf{MaxConf: 3, MaxTerm: 4, MaxFail: 5, Mru: 8, Secret: "secret", Own: "own"}
	odd := api.Conf{MaxConf: -1, MaxTerm: math.MaxInt, MaxFail: math.MinInt, Mru: -8, Secret: "\xff\x7e", Own: "\x00"}
	for _, c := range someConfs() {
		for _, other := range []api.Conf{full, odd} {
			other.Dir, other.Accm, other.Wide = c.Dir, c.Accm, c.Wide
			for _, format := range bothFormats {
				b, _ := Write(someItems(), format, c)
				if again, e := Write(someItems(), format, other); !bytes.Equal(again, b) || e != api.OK {
					t.Errorf("Write by %+v: %d", other, e)
				}
				if l, s := Read(b, format, other); !sameItems(l, someItems()) || s != (api.Spot{}) {
					t.Errorf("Read by %+v: %v, %v", other, l, s)
				}
			}
			ppp := pcapByWords(binary.BigEndian, api.LinkPpp, []byte{0x21})
			expect(t, ppp, api.Pcap, other, api.Item{Dir: c.Dir, Proto: api.Ip})
		}
	}
}

// TestByAnotherConfig reads what was written by one config by another one.
func TestByAnotherConfig(t *testing.T) { // P11.2
	for _, c := range someConfs() {
		for _, format := range bothFormats {
			b, _ := Write(someItems(), format, c)
			for _, other := range someConfs() {
				checkRead(t, b, format, other)
				other.Dir = api.In
				checkRead(t, b, format, other)
			}
		}
	}
}

func bytesByChance(r *rand.Rand, n int) []byte {
	b := make([]byte, n)
	r.Read(b)
	for i := range b {
		if r.Intn(4) == 0 {
			b[i] = []byte{0, 1, 3, 0x11, 0x21, 0x5e, 0x7d, 0x7e, 0xc0, 0xff}[r.Intn(10)]
		}
	}
	return b
}

// itemByChance is mostly a right one.
func itemByChance(r *rand.Rand) api.Item {
	x := api.Item{Dir: 1 + r.Intn(2), Data: bytesByChance(r, r.Intn(60))}
	for !mayProtoByWords(x.Proto) {
		x.Proto = r.Intn(1 << (1 + r.Intn(16)))
	}
	switch r.Intn(60) {
	case 0:
		x.Dir = r.Intn(6) - 2
	case 1:
		x.Proto = r.Intn(1 << 17)
	}
	return x
}

func confByChance(r *rand.Rand) api.Conf {
	return api.Conf{Dir: r.Intn(4), Accm: someMaps[r.Intn(len(someMaps))] ^ r.Uint32()>>r.Intn(33), Wide: r.Intn(2) == 0}
}

func TestItemsByChance(t *testing.T) { // P11.3, P11.4
	r := rand.New(rand.NewSource(11))
	for range 4000 {
		var l []api.Item
		for range r.Intn(8) {
			l = append(l, itemByChance(r))
		}
		checkWrite(t, l, r.Intn(4), confByChance(r))
	}
}

// recordByChance is mostly a frame, with a byte ahead or without.
func recordByChance(r *rand.Rand) []byte {
	x := itemByChance(r)
	b := frameOfByWords(x)
	if r.Intn(2) == 0 {
		b = b[2:]
	}
	if r.Intn(2) == 0 {
		b = append([]byte{byte(r.Intn(3))}, b...)
	}
	return b[:r.Intn(len(b)+1)]
}

func TestCapturesByChance(t *testing.T) { // P11.2
	r := rand.New(rand.NewSource(111))
	for range 8000 {
		var records [][]byte
		for range r.Intn(6) {
			records = append(records, recordByChance(r))
		}
		link := []uint32{9, 50, 204, 204, 204, uint32(r.Intn(300))}[r.Intn(6)]
		b := pcapByWords(bothOrders[r.Intn(2)], link, records...)
		checkRead(t, spoilt(r, b), api.Pcap, confByChance(r))
	}
}

// spoilt turns a bit now and then, or cuts off what stands behind.
func spoilt(r *rand.Rand, b []byte) []byte {
	if len(b) > 0 && r.Intn(6) == 0 {
		b[r.Intn(len(b))] ^= 1 << r.Intn(8)
	}
	if r.Intn(8) == 0 {
		b = b[:r.Intn(len(b)+1)]
	}
	return b
}

// dumpByChance has two streams of frames, mostly good ones, cut anywhere, and other notes between.
func dumpByChance(r *rand.Rand, c api.Conf) []byte {
	streams := [2][]byte{}
	for i, m := range []uint32{0, c.Accm} {
		for range r.Intn(6) {
			f := putByWords(recordByChance(r), m, c.Wide != (r.Intn(9) == 0))
			// A character, bare, may have come into it: one of the map is left out.
			if r.Intn(2) == 0 {
				f = slices.Insert(f, r.Intn(len(f)+1), byte(r.Intn(0x20)))
			}
			// Without its first flag it has that of the frame ahead, if there is one.
			streams[i] = append(streams[i], spoilt(r, f[r.Intn(2):])...)
		}
	}
	var b []byte
	for len(streams[0])+len(streams[1]) > 0 {
		i := r.Intn(2)
		n := min(len(streams[i]), r.Intn(40))
		b = append(b, noteByWords(api.DmOut+i, streams[i][:n])...)
		streams[i] = streams[i][n:]
		switch r.Intn(20) {
		case 0:
			b = append(b, api.DmEnd)
		case 1:
			b = append(b, api.DmEndIn)
		case 2:
			b = append(b, api.DmShort, 0x7e)
		case 3:
			b = append(b, api.DmLong, 0x7e, 1, 2, 3)
		case 4:
			b = append(b, api.DmTime, 1, 0x7e, 2, 3)
		}
	}
	return b
}

func TestDumpsByChance(t *testing.T) { // P11.2
	r := rand.New(rand.NewSource(112))
	for range 8000 {
		c := confByChance(r)
		b := dumpByChance(r, c)
		checkRead(t, b, api.Dump, c)
		checkRead(t, spoilt(r, b), api.Dump, c)
	}
}

// TestManyItems holds that the time goes up with the number of items, not with its square.
func TestManyItems(t *testing.T) { // P1, P11.2, P11.3, P11.4
	l := make([]api.Item, 70000)
	for i := range l {
		l[i] = api.Item{Dir: 1 + i%2, Proto: api.Lcp, Data: []byte{byte(i), byte(i >> 8)}}
	}
	for _, format := range bothFormats {
		checkWrite(t, l, format, api.Conf{Accm: 1})
	}
}

// TestManyNotes cuts few frames into many notes, and puts many ends between.
func TestManyNotes(t *testing.T) { // P1, P11.2
	x := api.Item{Dir: api.In, Proto: api.Lcp, Data: make([]byte, api.MaxData)}
	one := putByWords(frameOfByWords(x), 0, false)
	var b []byte
	for range 2 {
		for _, c := range one {
			b = append(b, api.DmIn, 0, 1, c, api.DmEnd)
		}
	}
	expect(t, b, api.Dump, api.Conf{}, x, x)
}

// fresh is a list with room behind its length, filled, so that a write there is seen.
func fresh(b []byte) []byte {
	room := bytes.Repeat([]byte{0x15}, len(b)+16)
	copy(room, b)
	return room[:len(b)]
}

// freshItems is a list of items, and of their Data, with room behind the length of each.
func freshItems(l []api.Item) []api.Item {
	room := make([]api.Item, len(l)+3)
	for i := range room {
		room[i] = api.Item{Dir: 15, Proto: 15, Data: fresh([]byte{15})}
		if i < len(l) {
			room[i] = l[i]
			room[i].Data = fresh(l[i].Data)
		}
	}
	return room[:len(l)]
}

// sameRoom compares two lists, and the room behind the length of each, and of each item's Data.
func sameRoom(a, b []api.Item) bool {
	return slices.EqualFunc(a[:cap(a)], b[:cap(b)], func(x, y api.Item) bool {
		return sameItem(x, y) && bytes.Equal(x.Data[:cap(x.Data)], y.Data[:cap(y.Data)])
	})
}

// overwrite fills a list and the room behind its length.
func overwrite(b []byte) {
	b = b[:cap(b)]
	for i := range b {
		b[i] = 99
	}
}

// overwriteItems fills all items' Data and the items, and the room behind their length.
func overwriteItems(l []api.Item) {
	l = l[:cap(l)]
	for i := range l {
		overwrite(l[i].Data)
		l[i] = api.Item{Dir: 99, Proto: 99, Data: []byte{99}}
	}
}

func cloneItems(l []api.Item) []api.Item {
	out := slices.Clone(l)
	for i := range out {
		out[i].Data = bytes.Clone(out[i].Data)
	}
	return out
}

// someCaptures are right ones of both formats, and wrong ones.
func someCaptures() [][]byte {
	var l [][]byte
	for _, format := range bothFormats {
		b, _ := writeByWords(someItems(), format, api.Conf{})
		l = append(l, b, b[:len(b)-1], b[:30], b[1:])
	}
	for _, link := range []uint32{api.LinkPpp, api.LinkSerial, 7} {
		l = append(l, pcapByWords(binary.BigEndian, link, []byte{0x21, 1, 2}, []byte{0xff, 3, 0xc0, 0x21, 5, 6}))
	}
	// A frame over two notes, and several in one.
	f := putByWords([]byte{0x21, 1, 2}, 0, false)
	l = append(l, slices.Concat(noteByWords(1, f[:4]), noteByWords(1, f[4:])), noteByWords(2, slices.Concat(f, f, f)))
	return append(l, nil, []byte{})
}

func TestHandedInStays(t *testing.T) { // P11.5
	for _, b := range someCaptures() {
		for format := range 4 {
			given, want := fresh(b), fresh(b)
			l, _ := Read(given, format, api.Conf{Dir: api.In})
			overwriteItems(l)
			if !bytes.Equal(given[:cap(given)], want[:cap(want)]) {
				t.Errorf("Read as %d: %x has become %x", format, want, given[:cap(given)])
			}
		}
	}
}

func TestItemsHandedInStay(t *testing.T) { // P11.5
	lists := [][]api.Item{nil, someItems(), someItems()[:2], append(someItems(), api.Item{}), itemsThatMayNotBe()}
	for _, x := range someItems() {
		lists = append(lists, []api.Item{x})
	}
	for i, l := range lists {
		for format := range 4 {
			for _, c := range someConfs() {
				given, want := freshItems(l), freshItems(l)
				for _, x := range given {
					May(x)
				}
				b, _ := Write(given, format, c)
				overwrite(b)
				if !sameRoom(given, want) {
					t.Errorf("Write of list %d as %d has changed its items", i, format)
				}
			}
		}
	}
}

func TestRoomIsNotHandedIn(t *testing.T) { // P11.5, rule 8
	for _, format := range bothFormats {
		b, _ := writeByWords(someItems(), format, api.Conf{})
		for n := range b {
			want, wantSpot := Read(slices.Clip(bytes.Clone(b[:n])), format, api.Conf{})
			if l, s := Read(b[:n], format, api.Conf{}); !sameItems(l, want) || s != wantSpot {
				t.Fatalf("Read of %d bytes goes by the room behind: %v", n, s)
			}
		}
		every := someItems()
		for n := range every {
			want, _ := writeByWords(slices.Clip(every[:n]), format, api.Conf{})
			if b, _ := Write(every[:n], format, api.Conf{}); !bytes.Equal(b, want) {
				t.Errorf("Write of %d items goes by the room behind", n)
			}
		}
	}
}

func TestItemsReadAreNew(t *testing.T) { // P11.5
	for _, b := range someCaptures() {
		for _, format := range bothFormats {
			given := fresh(b)
			first, _ := Read(given, format, api.Conf{Dir: api.In})
			want := cloneItems(first)
			second, _ := Read(given, format, api.Conf{Dir: api.In})
			overwriteItems(second)
			if !sameItems(first, want) {
				t.Errorf("Read(%x) shares memory with another answer", b)
			}
			overwrite(given)
			if !sameItems(first, want) {
				t.Errorf("Read(%x) shares memory with what was handed in", b)
			}
		}
	}
}

// TestDataOfOneAnswerIsApart writes into each item's Data, and into the room behind it, and looks at all others.
func TestDataOfOneAnswerIsApart(t *testing.T) { // P11.5
	for _, b := range someCaptures() {
		for _, format := range bothFormats {
			l, _ := Read(b, format, api.Conf{Dir: api.In})
			want := cloneItems(l)
			for i := range want {
				again, _ := Read(b, format, api.Conf{Dir: api.In})
				overwrite(again[i].Data)
				for j := range want {
					if j != i && !sameItem(again[j], want[j]) {
						t.Errorf("Read(%x): item %d shares memory with item %d", b, j, i)
					}
				}
			}
		}
	}
}

func TestBytesWrittenAreNew(t *testing.T) { // P11.5
	lists := [][]api.Item{nil, someItems()}
	for _, x := range someItems() {
		lists = append(lists, []api.Item{x})
	}
	for i, l := range lists {
		for _, format := range bothFormats {
			want, _ := writeByWords(l, format, api.Conf{})
			given := freshItems(l)
			first, _ := Write(given, format, api.Conf{})
			second, _ := Write(given, format, api.Conf{})
			overwrite(second)
			if !bytes.Equal(first, want) {
				t.Errorf("Write of list %d shares memory with another answer", i)
			}
			overwriteItems(given)
			if !bytes.Equal(first, want) {
				t.Errorf("Write of list %d shares memory with what was handed in", i)
			}
			overwrite(first)
			if third, _ := Write(l, format, api.Conf{}); !bytes.Equal(third, want) {
				t.Errorf("Write of list %d answers %x behind a write into its answer", i, third)
			}
		}
	}
}

func TestNothingIsKept(t *testing.T) { // rule 8
	half := noteByWords(api.DmIn, putByWords([]byte{0x21, 1, 2}, 0, false)[:4])
	for range 3 {
		for _, format := range bothFormats {
			b, _ := writeByWords(someItems(), format, api.Conf{})
			Read(half, api.Dump, api.Conf{Accm: 7, Wide: true, Dir: 9})
			Read(b[1:], api.Pcap, api.Conf{Wide: true})
			Read(b, 3, api.Conf{})
			Write([]api.Item{{}}, format, api.Conf{})
			Write(someItems()[3:], format, api.Conf{Wide: true, Accm: 0xffffffff})
			if l, s := Read(b, format, api.Conf{}); !sameItems(l, someItems()) || s != (api.Spot{}) {
				t.Errorf("Read answers unlike the one ahead: %v, %v", l, s)
			}
			if again, e := Write(someItems(), format, api.Conf{}); !bytes.Equal(again, b) || e != api.OK {
				t.Errorf("Write answers unlike the one ahead: %x, %d", again, e)
			}
		}
	}
}

func FuzzItems(f *testing.F) { // P1, P11.1 to P11.5
	for _, b := range someCaptures() {
		f.Add(b, api.In, api.Lcp, uint32(0), false)
	}
	f.Add([]byte{}, 0, 0xff, uint32(math.MaxUint32), true)
	f.Add([]byte{0x7d, 0x7e, 3}, math.MinInt, math.MaxInt, uint32(8), true)
	f.Fuzz(func(t *testing.T, b []byte, dir, proto int, m uint32, wide bool) {
		kept := bytes.Clone(b)
		c := api.Conf{Dir: dir, Accm: m, Wide: wide}
		x := api.Item{Dir: dir, Proto: proto, Data: b}
		if May(x) != mayByWords(x) {
			t.Errorf("May(%v): %v", x, May(x))
		}
		note := b[:min(len(b), longest)]
		for _, link := range []uint32{api.LinkPpp, api.LinkSerial, api.LinkDir} {
			checkRead(t, pcapByWords(binary.BigEndian, link, note, b[len(b)/2:]), api.Pcap, c)
		}
		checkRead(t, slices.Concat(noteByWords(1, note), []byte{4}, noteByWords(2, note), noteByWords(1, note)), api.Dump, c)
		checkRead(t, noteByWords(2, putByWords(note, m, wide)[:min(longest, 2+len(note))]), api.Dump, c)
		for format := range 4 {
			checkRead(t, b, format, c)
			checkWrite(t, []api.Item{x, {Dir: api.In, Proto: api.Ip}}, format, c)
			checkWrite(t, []api.Item{{Dir: api.In, Proto: api.Lcp, Data: note}, {Dir: api.Out, Proto: proto | 1, Data: b}}, format, c)
		}
		if !bytes.Equal(b, kept) {
			t.Error("what was handed in has changed")
		}
	})
}
