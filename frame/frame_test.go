package frame_test

import (
	"bytes"
	"hash/crc32"
	"math"
	"strconv"
	"strings"
	"testing"

	"compline/api"
	"compline/frame"
)

// seeds are some that sums may be, and the ends.
var seeds = []uint32{0, 1, 5, 1 << 31, 0xCBF43926, math.MaxUint32}

// lengths are those of data that may be, where the length's own bytes get more, and the ends.
var lengths = []int{0, 1, 2, 126, 127, 128, 129, 196, 197, 198, 255, 256, 1000, api.MaxData - 1, api.MaxData}

// some is so many bytes, all kinds of them, those of the document's mark and seal too.
func some(n int) []byte {
	b := make([]byte, n)
	for i := range b {
		b[i] = byte(i*i + 7*i + 0xC5)
	}
	return b
}

// sealed is b with its sum behind, by another's CRC than the program's.
func sealed(sum uint32, b []byte) []byte {
	x := crc32.Update(sum, crc32.IEEETable, b)
	return append(bytes.Clone(b), byte(x), byte(x>>8), byte(x>>16), byte(x>>24))
}

// byHand is a frame in the words of the document.
func byHand(sum uint32, kind byte, data []byte) []byte {
	b := []byte{0xC5, kind}
	if len(data) < 128 {
		b = append(b, byte(len(data)))
	} else {
		b = append(b, byte(len(data)%128)+128, byte(len(data)/128))
	}
	return sealed(sum, append(b, data...))
}

// must is a record's frame, and its sum.
func must(t *testing.T, sum uint32, r frame.Record) ([]byte, uint32) {
	t.Helper()
	b, next, e := frame.Bytes(sum, r)
	if e != api.OK {
		t.Fatalf("Bytes of %d bytes: %d", len(r.Data), e)
	}
	return b, next
}

// chain is records' frames, where each one begins and where they end, and the sums there.
func chain(t *testing.T, seed uint32, records []frame.Record) ([]byte, []int, []uint32) {
	t.Helper()
	var b []byte
	at, sums := []int{0}, []uint32{seed}
	for _, r := range records {
		x, sum := must(t, sums[len(sums)-1], r)
		b = append(b, x...)
		at, sums = append(at, len(b)), append(sums, sum)
	}
	return b, at, sums
}

// five is a chain's records, with marks and seals in their data.
func five() []frame.Record {
	return []frame.Record{{1, []byte("one")}, {0, nil}, {255, some(130)}, {0xC5, []byte{0xC5, 0xC5, 0, 0}}, {7, []byte("last")}}
}

// told holds what Scan and Good tell of bytes against the first so many of a chain's records.
func told(t *testing.T, what string, seed uint32, b []byte, want []frame.Record, at []int, sums []uint32) {
	t.Helper()
	i := 0
	for n, r := range frame.Scan(seed, b) {
		if i >= len(want) || n != at[i] || !same(r, want[i]) {
			t.Fatalf("%s: Scan tells as record %d: %d, %v", what, i, n, r)
		}
		i++
	}
	if i != len(want) {
		t.Errorf("%s: Scan tells %d records, not %d", what, i, len(want))
	}
	if n, sum := frame.Good(seed, b); n != at[len(want)] || sum != sums[len(want)] {
		t.Errorf("%s: Good: %d, %08X, not %d, %08X", what, n, sum, at[len(want)], sums[len(want)])
	}
}

func same(a, b frame.Record) bool { return a.Kind == b.Kind && bytes.Equal(a.Data, b.Data) }

// refused holds Next against an error, and zero values beside it; and so Scan and Good, that end there.
func refused(t *testing.T, what string, sum uint32, b []byte, want api.Errno) {
	t.Helper()
	r, n, next, e := frame.Next(sum, b)
	if e != want || r.Kind != 0 || len(r.Data) != 0 || n != 0 || next != 0 {
		t.Errorf("%s: Next: %v, %d, %08X, %d, not %d", what, r, n, next, e, want)
	}
	told(t, what, sum, b, nil, []int{0}, []uint32{sum})
}

// P3.1

func TestBytes(t *testing.T) {
	for _, sum := range seeds {
		for _, n := range lengths {
			for _, kind := range []byte{0, 1, 127, 128, 0xC5, 255} {
				want := byHand(sum, kind, some(n))
				b, next, e := frame.Bytes(sum, frame.Record{Kind: kind, Data: some(n)})
				if e != api.OK || !bytes.Equal(b, want) {
					t.Fatalf("Bytes(%08X) of kind %d, %d bytes: %v, %d, not %v", sum, kind, n, b, e, want)
				}
				if x := crc32.Update(sum, crc32.IEEETable, want[:len(want)-4]); next != x {
					t.Fatalf("Bytes(%08X) of kind %d, %d bytes: sum %08X, not %08X", sum, kind, n, next, x)
				}
			}
		}
	}
}

// One that was worked out apart from any program: More of 0 is Sum, and 0x1557302A that of C5 01 03 "abc".
func TestBytesOfKnownSum(t *testing.T) {
	b, sum := must(t, 0, frame.Record{Kind: 1, Data: []byte("abc")})
	if want := []byte{0xC5, 1, 3, 'a', 'b', 'c', byte(sum), byte(sum >> 8), byte(sum >> 16), byte(sum >> 24)}; !bytes.Equal(b, want) {
		t.Errorf("%v, not %v", b, want)
	}
	if sum != 0x1557302A {
		t.Errorf("%08X", sum)
	}
}

func TestBytesTooLong(t *testing.T) {
	for _, n := range []int{api.MaxData + 1, api.MaxData + 2, 1 << 14, 1 << 20} {
		for _, sum := range seeds {
			b, next, e := frame.Bytes(sum, frame.Record{Kind: 9, Data: make([]byte, n)})
			if e != api.ErrLong || len(b) != 0 || next != 0 {
				t.Errorf("Bytes of %d bytes: %d bytes, %08X, %d", n, len(b), next, e)
			}
		}
	}
}

func TestSize(t *testing.T) {
	for n := range api.MaxData + 1 {
		r := frame.Record{Kind: byte(n), Data: some(n)}
		want := 7 + n
		if n > 127 {
			want = 8 + n
		}
		if b, _ := must(t, 3, r); frame.Size(r) != want || len(b) != want {
			t.Fatalf("Size of %d bytes: %d, of which there are %d, not %d", n, frame.Size(r), len(b), want)
		}
	}
	for _, n := range []int{api.MaxData + 1, 1 << 20} {
		if k := frame.Size(frame.Record{Data: make([]byte, n)}); k != 0 {
			t.Errorf("Size of %d bytes, that have no frame: %d", n, k)
		}
	}
}

func TestNext(t *testing.T) {
	for _, sum := range seeds {
		for _, n := range lengths {
			for _, behind := range []string{"", "\x00", "\xC5", "more", strings.Repeat("\xFF", 2000)} {
				want := frame.Record{Kind: byte(n), Data: some(n)}
				b := byHand(sum, want.Kind, want.Data)
				r, k, next, e := frame.Next(sum, append(bytes.Clone(b), behind...))
				if e != api.OK || !same(r, want) || k != len(b) || next != crc32.Update(sum, crc32.IEEETable, b[:k-4]) {
					t.Fatalf("Next(%08X) of %d bytes, %q behind: %v, %d, %08X, %d", sum, n, behind, r, k, next, e)
				}
			}
		}
	}
}

func TestNextErrForm(t *testing.T) {
	good := byHand(5, 1, []byte("abc"))
	for x := range 256 {
		b := bytes.Clone(good)
		b[0] = byte(x)
		if x != 0xC5 {
			refused(t, "another first byte", 5, b, api.ErrForm)
			refused(t, "another first byte alone", 5, b[:1], api.ErrForm)
			refused(t, "another first byte, sealed", 5, sealed(5, b[:6]), api.ErrForm)
		}
	}
	for _, length := range [][]byte{
		{0x80, 0},
		{0x83, 0},
		{0xFF, 0x80, 0},
		{0x80, 0x80, 0x80, 0x80, 0x80, 0x80, 0x80, 0x80, 0x80, 0},
		{0x80, 0x80, 0x80, 0x80, 0x80, 0x80, 0x80, 0x80, 0x80, 2},
		{0xFF, 0xFF, 0xFF, 0xFF, 0xFF, 0xFF, 0xFF, 0xFF, 0xFF, 0x7F},
		{0xFF, 0xFF, 0xFF, 0xFF, 0xFF, 0xFF, 0xFF, 0xFF, 0xFF, 0xFF},
		{0x83, 0x80, 0x80, 0x80, 0x80, 0x80, 0x80, 0x80, 0x80, 0x80, 0},
	} {
		b := append([]byte{0xC5, 1}, length...)
		refused(t, "no length", 5, b, api.ErrForm)
		refused(t, "no length, and data", 5, append(b, "abc"...), api.ErrForm)
		refused(t, "no length, sealed", 5, sealed(5, append(b, "abc"...)), api.ErrForm)
	}
}

func TestNextErrLong(t *testing.T) {
	for _, length := range [][]byte{
		{0x81, 8}, // 1,025
		{0x82, 8},
		{0xFF, 0x7F},
		{0x80, 0x80, 1},
		{0xFF, 0xFF, 0xFF, 0xFF, 7},    // 2^31 - 1
		{0x80, 0x80, 0x80, 0x80, 0x10}, // 2^32: as 32 bits, 0
		{0xFF, 0xFF, 0xFF, 0xFF, 0xFF, 0xFF, 0xFF, 0xFF, 0x7F},       // 2^63 - 1
		{0x80, 0x80, 0x80, 0x80, 0x80, 0x80, 0x80, 0x80, 0x80, 1},    // 2^63
		{0xFF, 0xFF, 0xFF, 0xFF, 0xFF, 0xFF, 0xFF, 0xFF, 0xFF, 1},    // 2^64 - 1: signed, -1
		{0xFC, 0xFF, 0xFF, 0xFF, 0xFF, 0xFF, 0xFF, 0xFF, 0xFF, 1},    // with a sum behind: signed, 0
		{0x80, 0xF8, 0xFF, 0xFF, 0xFF, 0xFF, 0xFF, 0xFF, 0xFF, 0x01}, // signed, -1,024
	} {
		b := append([]byte{0xC5, 1}, length...)
		refused(t, "more than may be, and no data", 5, b, api.ErrLong)
		refused(t, "more than may be, and another sum", 5, append(bytes.Clone(b), make([]byte, 2000)...), api.ErrLong)
	}
	for _, n := range []int{1025, 1026, 2000} {
		refused(t, "a whole frame that is too long", 5, byHand(5, 1, make([]byte, n)), api.ErrLong)
	}
}

func TestNextErrShort(t *testing.T) {
	refused(t, "none", 5, nil, api.ErrShort)
	refused(t, "none", 5, []byte{}, api.ErrShort)
	for _, n := range []int{0, 1, 5, 127, 128, 300, api.MaxData} {
		b := byHand(5, 1, some(n))
		for i := range b {
			refused(t, "cut", 5, b[:i], api.ErrShort)
		}
	}
	for i := range 10 { // a length that goes on where the bytes end, whatever it has said so far
		refused(t, "cut in the length", 5, append([]byte{0xC5, 1}, bytes.Repeat([]byte{0x80}, i)...), api.ErrShort)
		refused(t, "cut in a great length", 5, append([]byte{0xC5, 1}, bytes.Repeat([]byte{0xFF}, i)...), api.ErrShort)
	}
}

// What is cut off isn't looked for in the spare room.
func TestNextInSpareRoom(t *testing.T) {
	b := byHand(5, 1, []byte("abc"))
	for i := range b {
		refused(t, "cut, the rest in spare room", 5, b[:i:len(b)], api.ErrShort)
	}
}

func TestNextErrSum(t *testing.T) {
	b := byHand(5, 1, []byte("abc"))
	for _, sum := range append(seeds, 4, 6, ^uint32(5)) {
		if sum != 5 {
			refused(t, "behind another sum", sum, b, api.ErrSum)
		}
	}
	for bit := range 8 * len(b) {
		c := bytes.Clone(b)
		c[bit/8] ^= 1 << (bit % 8)
		if bit/8 == 1 || bit/8 >= 3 {
			refused(t, "a bit of kind, data or sum turned", 5, c, api.ErrSum)
		} else if _, _, _, e := frame.Next(5, c); e == api.OK {
			t.Errorf("bit %d turned isn't told", bit)
		}
	}
	n := len(b)
	refused(t, "the sum's bytes turned round", 5, append(b[:n-4:n-4], b[n-1], b[n-2], b[n-3], b[n-4]), api.ErrSum)
	refused(t, "the data's sum without the head's", 5, append(b[:n-4:n-4], sealed(5, b[3:n-4])[3:]...), api.ErrSum)
	refused(t, "a shorter length", 5, append([]byte{0xC5, 1, 2}, b[3:]...), api.ErrSum)
}

func TestScanAndGood(t *testing.T) {
	for _, seed := range seeds {
		records := five()
		for n := range len(records) + 1 {
			b, at, sums := chain(t, seed, records[:n])
			told(t, "a whole chain", seed, b, records[:n], at, sums)
			for _, behind := range []string{"\x00", "\xC5", "junk", "\xC5\x00\x81\x08", "\xC5\x01\x00abcd"} {
				told(t, "with "+strconv.Quote(behind)+" behind", seed, append(bytes.Clone(b), behind...), records[:n], at, sums)
			}
		}
	}
	told(t, "none", 77, nil, nil, []int{0}, []uint32{77})
}

// A frame is good behind just the sum of the one ahead.
func TestChainHoldsTogether(t *testing.T) {
	records := five()
	b, at, sums := chain(t, 9, records)
	part := func(i int) []byte { return b[at[i]:at[i+1]] }
	told(t, "another seed", 8, b, nil, at, []uint32{8})
	told(t, "from the second one on", 9, b[at[1]:], nil, at, sums)
	told(t, "without the second one", 9, bytes.Join([][]byte{part(0), part(2), part(3)}, nil), records[:1], at, sums)
	told(t, "the second one twice", 9, bytes.Join([][]byte{part(0), part(1), part(1), part(2)}, nil), records[:2], at, sums)
	told(t, "two in the other order", 9, bytes.Join([][]byte{part(0), part(2), part(1), part(3)}, nil), records[:1], at, sums)
	told(t, "two chains", 9, append(bytes.Clone(b), b...), records, at, sums)
	told(t, "another's first one", 9, bytes.Join([][]byte{byHand(9, 1, []byte("two")), part(1)}, nil), []frame.Record{{1, []byte("two")}},
		at, []uint32{9, crc32.Update(9, crc32.IEEETable, []byte("\xC5\x01\x03two"))})
	// What is behind goes on from where a chain ended.
	for i, sum := range sums {
		last := len(records)
		if n, end := frame.Good(sum, b[at[i]:]); n != at[last]-at[i] || end != sums[last] {
			t.Errorf("Good from record %d on: %d, %08X", i, n, end)
		}
	}
}

func TestLongChain(t *testing.T) {
	var records []frame.Record
	for i := range 20000 {
		records = append(records, frame.Record{Kind: byte(i), Data: some(i % 9)})
	}
	b, at, sums := chain(t, 1, records)
	told(t, "a long chain", 1, b, records, at, sums)
}

func TestScanIsLeft(t *testing.T) {
	b, at, _ := chain(t, 4, five())
	for most := 1; most <= 5; most++ {
		n := 0
		for i := range frame.Scan(4, b) {
			if i != at[n] {
				t.Errorf("record %d begins at %d", n, i)
			}
			if n++; n == most {
				break
			}
		}
		if n != most {
			t.Errorf("left behind %d, not %d", n, most)
		}
	}
	frame.Scan(4, b)(nil)
}

// P3.2

func TestWhatIsWrittenIsRead(t *testing.T) {
	sum := uint32(0)
	for n := range api.MaxData + 1 {
		want := frame.Record{Kind: byte(3 * n), Data: some(n)}
		b, next := must(t, sum, want)
		r, k, got, e := frame.Next(sum, b)
		if e != api.OK || !same(r, want) || k != len(b) || got != next {
			t.Fatalf("of %d bytes: %v, %d, %08X, %d", n, r, k, got, e)
		}
		sum = next
	}
}

func TestCutAnywhere(t *testing.T) {
	records := five()
	b, at, sums := chain(t, 6, records)
	whole := 0
	for i := range len(b) + 1 {
		if whole < len(records) && at[whole+1] <= i {
			whole++
		}
		told(t, "cut", 6, b[:i], records[:whole], at, sums)
		// Where other bytes stand instead of what is cut off, that counts as little; by chance a frame's last bytes may be these.
		for _, x := range []byte{0, 0xC5, 0xFF} {
			torn := append(bytes.Clone(b[:i]), bytes.Repeat([]byte{x}, len(b)-i)...)
			if whole < len(records) && !bytes.Equal(torn[:at[whole+1]], b[:at[whole+1]]) {
				told(t, "torn", 6, torn, records[:whole], at, sums)
			}
		}
	}
}

func TestTurnedAnywhere(t *testing.T) {
	records := five()
	b, at, sums := chain(t, 6, records)
	for bit := range 8 * len(b) {
		whole := 0
		for at[whole+1] <= bit/8 {
			whole++
		}
		c := bytes.Clone(b)
		c[bit/8] ^= 1 << (bit % 8)
		told(t, "turned", 6, c, records[:whole], at, sums)
	}
}

func TestNothingIsChanged(t *testing.T) {
	all := some(300)
	before := bytes.Clone(all)
	r := frame.Record{Kind: 1, Data: all[10:200]}
	must(t, 5, r)
	frame.Size(r)
	if !bytes.Equal(all, before) {
		t.Error("Bytes or Size changes data or their spare room")
	}
	b, _, _ := chain(t, 5, five())
	b = append(b, some(100)...)
	before = bytes.Clone(b)
	short := b[:len(b)-100]
	frame.Next(5, short)
	frame.Good(5, short)
	for range frame.Scan(5, short) {
	}
	if !bytes.Equal(b, before) {
		t.Error("Next, Good or Scan changes bytes or their spare room")
	}
}

func TestAnswersAreNewMemory(t *testing.T) {
	data := []byte("some data")
	b, sum := must(t, 5, frame.Record{Kind: 1, Data: data})
	want := bytes.Clone(b)
	data[0] = 'S'
	if !bytes.Equal(b, want) {
		t.Error("a frame hangs on data that were handed in")
	}
	again, _ := must(t, 5, frame.Record{Kind: 1, Data: []byte("some data")})
	clear(again[:cap(again)])
	if !bytes.Equal(b, want) {
		t.Error("two frames share memory")
	}
	r, _, _, _ := frame.Next(5, b)
	other, _, _, _ := frame.Next(5, b)
	clear(r.Data[:cap(r.Data)])
	if !bytes.Equal(b, want) || string(other.Data) != "some data" {
		t.Error("a record that was read shares memory")
	}
	clear(b)
	if string(other.Data) != "some data" {
		t.Error("a record hangs on bytes that were handed in")
	}
	if n, got := frame.Good(5, want); n != len(want) || got != sum {
		t.Errorf("Good: %d, %08X", n, got)
	}
}

func TestScanTellsTheSameEachTime(t *testing.T) {
	records := five()
	b, at, _ := chain(t, 5, records)
	all := frame.Scan(5, b)
	clear(b)
	for range 3 {
		i := 0
		for n, r := range all {
			if n != at[i] || !same(r, records[i]) {
				t.Errorf("record %d: %d, %v", i, n, r)
			}
			clear(r.Data[:cap(r.Data)])
			// Another round in the midst of this one is one of its own.
			inner := 0
			for range all {
				inner++
			}
			if inner != len(records) {
				t.Errorf("%d records within a round", inner)
			}
			i++
		}
		if i != len(records) {
			t.Errorf("%d records", i)
		}
	}
}

// The document's example.
func TestExample(t *testing.T) {
	records := []frame.Record{{1, []byte("first")}, {2, []byte("second")}}
	b, at, sums := chain(t, 0, records)
	for i := at[1]; i < len(b); i++ {
		for _, turn := range []byte{1, 0x80, 0xFF} {
			c := bytes.Clone(b)
			c[i] ^= turn
			told(t, "one byte of the second one turned", 0, c, records[:1], at, sums)
		}
	}
}
