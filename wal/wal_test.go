package wal_test

import (
	"bytes"
	"encoding/binary"
	"math"
	"math/rand"
	"slices"
	"strings"
	"testing"

	"compline/api"
	"compline/disk"
	"compline/frame"
	"compline/wal"
)

// rec is a record of a kind, with a text.
func rec(kind byte, s string) frame.Record { return frame.Record{Kind: kind, Data: []byte(s)} }

// recs is records of kind 1, one a text.
func recs(texts ...string) []frame.Record {
	var l []frame.Record
	for _, s := range texts {
		l = append(l, rec(1, s))
	}
	return l
}

// sized is a record whose frame has so many bytes, told by a number.
func sized(t *testing.T, n, number int) frame.Record {
	t.Helper()
	for data := max(n-16, 0); data <= n; data++ {
		r := frame.Record{Kind: 2, Data: bytes.Repeat([]byte{byte(number + 1)}, data)}
		if frame.Size(r) == n {
			return r
		}
	}
	t.Fatalf("no frame of %d bytes", n)
	return frame.Record{}
}

var sealed = frame.Record{Kind: 255}

// chain is the bytes of records' frames, from the seed 0 on.
func chain(t *testing.T, l ...frame.Record) []byte {
	t.Helper()
	var all []byte
	var sum uint32
	for _, r := range l {
		b, next, e := frame.Bytes(sum, r)
		if e != api.OK {
			t.Fatal(e)
		}
		all, sum = append(all, b...), next
	}
	return all
}

// raw is a sector's bytes: a turn, a count, and bytes.
func raw(turn uint64, n int, b []byte) []byte {
	s := binary.LittleEndian.AppendUint64(nil, turn)
	s = append(append(s, byte(n)), b...)
	return append(s, make([]byte, 64-len(s))...)
}

// laid is the sectors that bytes come to.
func laid(turn uint64, b []byte) [][]byte {
	var l [][]byte
	for part := range slices.Chunk(b, 55) {
		l = append(l, raw(turn, len(part), part))
	}
	return l
}

func made(t *testing.T, sectors int) *disk.Disk {
	t.Helper()
	d, e := disk.New(sectors)
	if e != api.OK {
		t.Fatal(e)
	}
	return d
}

// put writes sectors from one on, and syncs them.
func put(t *testing.T, d *disk.Disk, from int, sectors ...[]byte) {
	t.Helper()
	for i, s := range sectors {
		if e := d.Write(from+i, s); e != api.OK {
			t.Fatalf("Write(%d): %d", from+i, e)
		}
	}
	if e := d.Sync(); e != api.OK {
		t.Fatal(e)
	}
}

// read is all that a disk has.
func read(t *testing.T, d *disk.Disk) []byte {
	t.Helper()
	b, e := d.Read(0, d.Len())
	if e != api.OK {
		t.Fatal(e)
	}
	return b
}

// waits is the sectors of the writings that wait.
func waits(d *disk.Disk) []int {
	var l []int
	for _, at := range d.Waits() {
		l = append(l, at)
	}
	return l
}

// holds holds a disk against sectors, from one on.
func holds(t *testing.T, what string, d *disk.Disk, from int, sectors ...[]byte) {
	t.Helper()
	for i, s := range sectors {
		if b, e := d.Read(from+i, 1); e != api.OK || !bytes.Equal(b, s) {
			t.Errorf("%s: sector %d: %v, %d, not %v", what, from+i, b, e, s)
		}
	}
}

func format(t *testing.T, d *disk.Disk) *wal.Log {
	t.Helper()
	l, e := wal.Format(d)
	if e != api.OK || l == nil {
		t.Fatalf("Format: %v, %d", l, e)
	}
	return l
}

func same(a, b frame.Record) bool { return a.Kind == b.Kind && bytes.Equal(a.Data, b.Data) }

// open opens a disk's log, and holds its records against these.
func open(t *testing.T, what string, d *disk.Disk, want ...frame.Record) *wal.Log {
	t.Helper()
	l, got, e := wal.Open(d)
	if e != api.OK || l == nil {
		t.Fatalf("%s: Open: %v, %d", what, l, e)
	}
	if !slices.EqualFunc(got, want, same) {
		t.Fatalf("%s: %v, not %v", what, got, want)
	}
	return l
}

func add(t *testing.T, l *wal.Log, all ...frame.Record) {
	t.Helper()
	for _, r := range all {
		if e := l.Append(r); e != api.OK {
			t.Fatalf("Append of %d bytes: %d", frame.Size(r), e)
		}
	}
}

func sync(t *testing.T, l *wal.Log) {
	t.Helper()
	if e := l.Sync(); e != api.OK {
		t.Fatalf("Sync: %d", e)
	}
}

func rewrite(t *testing.T, l *wal.Log, base ...frame.Record) {
	t.Helper()
	if e := l.Rewrite(base); e != api.OK {
		t.Fatalf("Rewrite: %d", e)
	}
}

// is holds a log against its turn, and the bytes that its chain has, of a half's.
func is(t *testing.T, what string, l *wal.Log, turn uint64, half int, all ...frame.Record) {
	t.Helper()
	if l.Turn() != turn {
		t.Errorf("%s: turn %d, not %d", what, l.Turn(), turn)
	}
	if room := half*55 - len(chain(t, all...)); l.Room() != room {
		t.Errorf("%s: room %d, not %d", what, l.Room(), room)
	}
}

// refuses holds what a call answers, and that nothing is changed by it.
func refuses(t *testing.T, what string, d *disk.Disk, l *wal.Log, want api.Errno, call func() api.Errno) {
	t.Helper()
	down := d.Down()
	turn, room, c := l.Turn(), l.Room(), d.Copy()
	c.Up()
	before, wait := read(t, c), waits(d)
	if e := call(); e != want {
		t.Errorf("%s: %d, not %d", what, e, want)
	}
	c = d.Copy()
	c.Up()
	if d.Down() != down || !bytes.Equal(read(t, c), before) || !slices.Equal(waits(d), wait) {
		t.Errorf("%s: the disk is changed", what)
	}
	if l.Turn() != turn || l.Room() != room {
		t.Errorf("%s: turn %d, room %d, not %d, %d", what, l.Turn(), l.Room(), turn, room)
	}
}

// P5.1: Format

func TestFormat(t *testing.T) {
	for _, n := range []int{4, 5, 6, 7, 32, 33, 4095, 4096} {
		d := made(t, n)
		l := format(t, d)
		is(t, "formatted", l, 1, n/2, sealed)
		holds(t, "formatted", d, 0, laid(1, chain(t, sealed))...)
		if b, _ := d.Read(1, n-1); !bytes.Equal(b, make([]byte, 64*(n-1))) {
			t.Error("more than the first sector is written")
		}
		if len(waits(d)) != 0 {
			t.Error("it isn't synced")
		}
		d.Crash(nil)
		d.Up()
		open(t, "formatted, and crashed", d)
	}
}

func TestFormatTurn(t *testing.T) {
	for _, n := range []int{4, 7, 64} {
		for at := range n {
			d := made(t, n)
			put(t, d, at, raw(6, 0, nil))
			put(t, d, (at+1)%n, raw(5, 55, nil))
			is(t, "formatted", format(t, d), 7, n/2, sealed)
			holds(t, "formatted", d, 0, raw(7, 7, chain(t, sealed)))
		}
	}
	// Bytes that are no sector of a log have turns nevertheless, and each byte of these counts.
	d := made(t, 5)
	put(t, d, 4, []byte{1, 2, 3, 4, 5, 6, 7, 8, 200})
	is(t, "formatted", format(t, d), 0x0807060504030202, 2, sealed)
}

func TestFormatAgain(t *testing.T) {
	d := made(t, 9)
	l := format(t, d)
	add(t, l, recs("one", "two")...)
	sync(t, l)
	add(t, l, recs("three")...)
	is(t, "again", format(t, d), 2, 4, sealed)
	open(t, "formatted twice", d)
	// The current half is the second one now, and it is another's then.
	is(t, "and again", format(t, d), 4, 4, sealed)
	holds(t, "and again", d, 0, raw(4, 7, chain(t, sealed)))
	open(t, "formatted three times", d)
}

func TestFormatErrors(t *testing.T) {
	for n := 1; n < 4; n++ {
		d := made(t, n)
		if l, e := wal.Format(d); l != nil || e != api.ErrArg {
			t.Errorf("Format of %d: %v, %d", n, l, e)
		}
		if !bytes.Equal(read(t, d), make([]byte, 64*n)) {
			t.Errorf("Format of %d writes", n)
		}
		d.Crash(nil)
		if l, e := wal.Format(d); l != nil || e != api.ErrArg {
			t.Errorf("Format of %d that are down: %v, %d", n, l, e)
		}
	}
	if l, e := wal.Format(nil); l != nil || e != api.ErrArg {
		t.Errorf("Format of nil: %v, %d", l, e)
	}
	d := made(t, 4)
	d.Crash(nil)
	if l, e := wal.Format(d); l != nil || e != api.ErrDisk {
		t.Errorf("Format of one that is down: %v, %d", l, e)
	}
}

func TestFormatErrRange(t *testing.T) {
	for at := range 5 {
		for _, turn := range []uint64{1 << 63, 1<<63 + 1, math.MaxUint64} {
			d := made(t, 5)
			put(t, d, at, raw(turn, 0, nil))
			before := read(t, d)
			if l, e := wal.Format(d); l != nil || e != api.ErrRange {
				t.Errorf("turn %d: %v, %d", turn, l, e)
			}
			if !bytes.Equal(read(t, d), before) || len(waits(d)) != 0 {
				t.Error("what is refused is written")
			}
		}
		d := made(t, 5)
		put(t, d, at, raw(1<<63-1, 0, nil))
		l := format(t, d)
		is(t, "the last turn", l, 1<<63, 2, sealed)
		// A log that is there goes on; a new one isn't made.
		add(t, l, rec(1, "a"))
		rewrite(t, l, rec(1, "b"))
		is(t, "beyond it", l, 1<<63+1, 2, rec(1, "b"), sealed)
		if l, all, e := wal.Open(d); l != nil || len(all) != 0 || e != api.ErrRange {
			t.Errorf("Open beyond it: %v, %v, %d", l, all, e)
		}
	}
}

// P5.1: Open

func TestOpen(t *testing.T) {
	for _, n := range []int{4, 5, 32, 33} {
		d := made(t, n)
		l := format(t, d)
		all := []frame.Record{rec(1, "one"), rec(0, ""), rec(254, "three"), rec(1, "")}
		add(t, l, all...)
		sync(t, l)
		first, _ := d.Read(0, n/2)
		// The base is those that were appended, too; the seal stands behind them.
		is(t, "opened", open(t, "opened", d, all...), 2, n/2, append(all, sealed)...)
		if len(waits(d)) != 0 {
			t.Error("it isn't synced")
		}
		holds(t, "opened", d, n/2, laid(2, chain(t, append(all, sealed)...))...)
		if b, _ := d.Read(0, n/2); !bytes.Equal(b, first) {
			t.Error("the half that it was read from is written")
		}
		is(t, "again", open(t, "again", d, all...), 3, n/2, append(all, sealed)...)
		holds(t, "again", d, 0, laid(3, chain(t, append(all, sealed)...))...)
		d.Crash(nil)
		d.Up()
		is(t, "crashed", open(t, "crashed", d, all...), 4, n/2, append(all, sealed)...)
	}
}

// What waits is read, too, and is synced then.
func TestOpenOfWhatWaits(t *testing.T) {
	d := made(t, 8)
	l := format(t, d)
	add(t, l, recs("one", "two")...)
	open(t, "unsynced", d, recs("one", "two")...)
	if len(waits(d)) != 0 {
		t.Error("it isn't synced")
	}
	d.Crash(nil)
	d.Up()
	open(t, "crashed", d, recs("one", "two")...)
}

func TestOpenErrors(t *testing.T) {
	for n := 1; n < 4; n++ {
		d := made(t, n)
		put(t, d, 0, raw(1, 7, chain(t, sealed)))
		if l, all, e := wal.Open(d); l != nil || len(all) != 0 || e != api.ErrArg {
			t.Errorf("Open of %d: %v, %v, %d", n, l, all, e)
		}
		d.Crash(nil)
		if _, _, e := wal.Open(d); e != api.ErrArg {
			t.Errorf("Open of %d that are down: %d", n, e)
		}
	}
	if l, all, e := wal.Open(nil); l != nil || len(all) != 0 || e != api.ErrArg {
		t.Errorf("Open of nil: %v, %v, %d", l, all, e)
	}
	d := made(t, 4)
	format(t, d)
	d.Crash(nil)
	if l, all, e := wal.Open(d); l != nil || len(all) != 0 || e != api.ErrDisk {
		t.Errorf("Open of one that is down: %v, %v, %d", l, all, e)
	}
	d.Up()
	open(t, "up again", d)
}

// none holds a disk against having no log.
func none(t *testing.T, what string, d *disk.Disk) {
	t.Helper()
	before := read(t, d)
	if l, all, e := wal.Open(d); l != nil || len(all) != 0 || e != api.ErrNone {
		t.Errorf("%s: %v, %v, %d", what, l, all, e)
	}
	if !bytes.Equal(read(t, d), before) || len(waits(d)) != 0 {
		t.Errorf("%s: what is refused is written", what)
	}
}

func TestOpenErrNone(t *testing.T) {
	good := chain(t, rec(1, "one"), sealed)
	none(t, "a new disk", made(t, 8))
	for name, sectors := range map[string][][]byte{
		"of the turn 0":      laid(0, good),
		"without a seal":     laid(3, chain(t, rec(1, "one"))),
		"a seal with data":   laid(3, chain(t, rec(255, "x"))),
		"another kind":       laid(3, chain(t, rec(254, ""))),
		"a seal cut":         laid(3, good[:len(good)-1]),
		"a seal turned":      laid(3, append(slices.Clone(good[:len(good)-1]), good[len(good)-1]^1)),
		"none of it counts":  {raw(3, 0, good)},
		"too few count":      {raw(3, len(good)-1, good)},
		"behind what isn't":  laid(3, append([]byte{0}, good...)),
		"no sector of a log": {raw(3, 56, good)},
		"nor this one":       {raw(3, 255, good)},
	} {
		for _, from := range []int{0, 4} {
			d := made(t, 9)
			put(t, d, from, sectors...)
			none(t, name, d)
		}
	}
	// It stands there, but not at a half's beginning.
	for _, from := range []int{1, 2, 3, 5, 8} {
		d := made(t, 9)
		put(t, d, from, laid(3, good)...)
		none(t, "elsewhere", d)
	}
	// ErrNone is told ahead of ErrRange.
	d := made(t, 9)
	put(t, d, 8, raw(math.MaxUint64, 0, nil))
	none(t, "of the last turn", d)
}

// The seal stands behind sectors of a base that are full: of each the turn counts, and how many of it count.
func TestOpenOfABaseOfManySectors(t *testing.T) {
	base := []frame.Record{sized(t, 30, 1), sized(t, 100, 2), sized(t, 30, 3)}
	whole := laid(9, chain(t, append(base, sealed)...))
	if len(whole) != 4 {
		t.Fatal(len(whole))
	}
	d := made(t, 10)
	put(t, d, 5, whole...)
	is(t, "whole", open(t, "whole", d, base...), 10, 5, append(base, sealed)...)
	for at := range 4 {
		for name, s := range map[string][]byte{
			"an older turn":   append(raw(8, 0, nil)[:8], whole[at][8:]...),
			"a later turn":    append(raw(10, 0, nil)[:8], whole[at][8:]...),
			"the turn 0":      append(make([]byte, 8), whole[at][8:]...),
			"fewer count":     append(append(whole[at][:8:8], whole[at][8]-1), whole[at][9:]...),
			"none count":      append(append(whole[at][:8:8], 0), whole[at][9:]...),
			"more than there": append(append(whole[at][:8:8], 56), whole[at][9:]...),
			"another byte":    append(append(whole[at][:9:9], whole[at][9]^4), whole[at][10:]...),
		} {
			d := made(t, 10)
			put(t, d, 5, whole...)
			put(t, d, 5+at, s)
			none(t, name, d)
		}
	}
}

// Behind a sector that isn't full the half has no bytes, whatever stands there.
func TestOpenEndsAtASectorThatIsNotFull(t *testing.T) {
	c := chain(t, sealed, sized(t, 30, 1), sized(t, 40, 2))
	if len(c) != 77 {
		t.Fatal(len(c))
	}
	for _, x := range []struct {
		cut  int
		want []frame.Record
	}{
		{55, []frame.Record{sized(t, 30, 1), sized(t, 40, 2)}},
		{54, []frame.Record{sized(t, 30, 1)}},
		{37, []frame.Record{sized(t, 30, 1)}},
		{36, nil},
		{7, nil},
	} {
		d := made(t, 8)
		behind := c[x.cut:min(x.cut+55, len(c))]
		put(t, d, 0, raw(4, x.cut, c[:x.cut]), raw(4, len(behind), behind))
		open(t, "cut", d, x.want...)
	}
	// The last sector of the half is the last one, though the next one goes on.
	c = chain(t, sealed, sized(t, 103, 1), sized(t, 20, 2))
	d := made(t, 4)
	put(t, d, 0, laid(4, c)...)
	open(t, "two halves of one turn", d, sized(t, 103, 1))
}

// As far as the chain goes: what is behind its first error isn't told.
func TestOpenEndsWithTheChain(t *testing.T) {
	all := []frame.Record{rec(1, "one"), sealed, rec(2, "two"), rec(3, "three")}
	c := chain(t, all...)
	two := len(chain(t, all[:2]...))
	for at := range c {
		d := made(t, 8)
		b := slices.Clone(c)
		b[at] ^= 0x10
		put(t, d, 0, laid(4, b)...)
		switch {
		case at < two:
			none(t, "turned in the base", d)
		case at < len(chain(t, all[:3]...)):
			open(t, "turned behind it", d, rec(1, "one"))
		default:
			open(t, "turned at last", d, rec(1, "one"), rec(2, "two"))
		}
	}
}

// Of the kind 255 the first one without data is the seal; others are records.
func TestOpenTellsAllButTheFirstSeal(t *testing.T) {
	odd := rec(255, "data")
	d := made(t, 8)
	put(t, d, 0, laid(4, chain(t, odd, rec(1, "a"), sealed, rec(1, "b"), sealed, odd))...)
	open(t, "odd ones", d, odd, rec(1, "a"), rec(1, "b"), sealed, odd)
	holds(t, "rewritten", d, 4, laid(5, chain(t, odd, rec(1, "a"), rec(1, "b"), sealed, odd, sealed))...)
}

func TestCurrentHalf(t *testing.T) {
	one, two := rec(1, "one"), rec(1, "two")
	good := func(turn uint64, r frame.Record) [][]byte { return laid(turn, chain(t, r, sealed)) }
	loose := func(turn uint64) [][]byte { return laid(turn, chain(t, rec(1, "loose"))) }
	for _, x := range []struct {
		what          string
		first, second [][]byte
		want          frame.Record
		turn          uint64
	}{
		{"the first one alone", good(7, one), nil, one, 8},
		{"the second one alone", nil, good(7, two), two, 8},
		{"the first one's turn is greater", good(7, one), good(6, two), one, 8},
		{"the second one's turn is greater", good(7, one), good(8, two), two, 9},
		{"much greater", good(1<<62, one), good(255, two), one, 1<<62 + 1},
		{"by its last byte", good(1, one), good(1<<56, two), two, 1<<56 + 1},
		{"the greater one isn't sealed", good(7, one), loose(9), one, 10},
		{"nor here", loose(1 << 40), good(7, two), two, 1<<40 + 1},
		{"the turn 0 is none", good(0, one), good(1, two), two, 2},
	} {
		d := made(t, 11)
		put(t, d, 0, x.first...)
		put(t, d, 5, x.second...)
		is(t, x.what, open(t, x.what, d, x.want), x.turn, 5, x.want, sealed)
		// It is rewritten in the other half.
		at := 5
		if x.want.Data[0] == 't' {
			at = 0
		}
		holds(t, x.what, d, at, laid(x.turn, chain(t, x.want, sealed))...)
	}
}

// The turn is above each sector's, wherever it stands, even outside of both halves.
func TestOpenTurn(t *testing.T) {
	for at := 1; at < 9; at++ {
		if at == 4 {
			continue
		}
		d := made(t, 9)
		l := format(t, d)
		add(t, l, rec(1, "a"))
		sync(t, l)
		put(t, d, at, raw(1000, 3, nil))
		is(t, "opened", open(t, "opened", d, rec(1, "a")), 1001, 4, rec(1, "a"), sealed)
	}
	for at := 1; at < 9; at++ {
		d := made(t, 9)
		format(t, d)
		put(t, d, at, raw(1<<63, 3, nil))
		before := read(t, d)
		if l, all, e := wal.Open(d); l != nil || len(all) != 0 || e != api.ErrRange {
			t.Errorf("%v, %v, %d", l, all, e)
		}
		if !bytes.Equal(read(t, d), before) || len(waits(d)) != 0 {
			t.Error("what is refused is written")
		}
	}
}

// P5.1: Append

// Each sector that a frame comes to is written once, in order, as it is then.
func TestAppend(t *testing.T) {
	d := made(t, 40)
	l := format(t, d)
	all := []frame.Record{sealed}
	for i, n := range []int{7, 8, 33, 55, 54, 1, 110, 111, 9, 400, 46, 64} {
		r := sized(t, max(n, 7), i)
		from := len(chain(t, all...))
		all = append(all, r)
		add(t, l, r)
		c := chain(t, all...)
		now := laid(1, c)
		holds(t, "appended", d, 0, now...)
		var want []int
		for at := from / 55; at < len(now); at++ {
			want = append(want, at)
		}
		if got := waits(d); !slices.Equal(got, want) {
			t.Errorf("%d bytes from %d on: %v wait, not %v", n, from, got, want)
		}
		if len(now)%3 == 0 {
			// What isn't synced is lost; what is, is there.
			lost := d.Copy()
			lost.Crash(nil)
			lost.Up()
			open(t, "lost", lost, all[1:len(all)-1]...)
		}
		is(t, "appended", l, 1, 20, all...)
		sync(t, l)
		if len(waits(d)) != 0 {
			t.Error("it isn't synced")
		}
	}
	kept := d.Copy()
	kept.Crash(nil)
	kept.Up()
	open(t, "kept", kept, all[1:]...)
	if b, _ := d.Read(20, 20); !bytes.Equal(b, make([]byte, 64*20)) {
		t.Error("the other half is written")
	}
}

// A writing that waits is a sector as it was then, not as it is later.
func TestAppendWaitsAsItWasThen(t *testing.T) {
	d := made(t, 8)
	l := format(t, d)
	add(t, l, recs("a", "b", "c")...)
	for n := range 4 {
		c := d.Copy()
		c.Crash(func(i int) bool { return i < n })
		c.Up()
		holds(t, "kept", c, 0, laid(1, chain(t, append([]frame.Record{sealed}, recs("a", "b", "c")[:n]...)...))...)
		open(t, "kept", c, recs("a", "b", "c")[:n]...)
	}
}

// Behind a base the log goes on in its half, where the seal ends.
func TestAppendBehindABase(t *testing.T) {
	for n := 7; n <= 120; n++ {
		d := made(t, 16)
		l := format(t, d)
		base := sized(t, n, 0)
		rewrite(t, l, base)
		add(t, l, recs("one", "two")...)
		all := append([]frame.Record{base, sealed}, recs("one", "two")...)
		holds(t, "behind a base", d, 8, laid(2, chain(t, all...))...)
		is(t, "behind a base", l, 2, 8, all...)
		l = open(t, "behind a base", d, append([]frame.Record{base}, recs("one", "two")...)...)
		add(t, l, rec(1, "three"))
		all = append([]frame.Record{base}, append(recs("one", "two"), sealed, rec(1, "three"))...)
		holds(t, "behind Open", d, 0, laid(3, chain(t, all...))...)
		open(t, "behind Open", d, append([]frame.Record{base}, recs("one", "two", "three")...)...)
	}
}

// A frame that fits to the last byte goes in, and no other one.
func TestAppendErrFull(t *testing.T) {
	for _, n := range []int{4, 5, 6, 9} {
		half := n / 2
		for left := range 60 {
			if half*55-7-left == 135 { // no frame has just so many bytes
				continue
			}
			d := made(t, n)
			l := format(t, d)
			first := sized(t, half*55-7-left, 0)
			add(t, l, first)
			sync(t, l)
			is(t, "so far", l, 1, half, sealed, first)
			if left > 6 {
				refuses(t, "one byte more", d, l, api.ErrFull, func() api.Errno { return l.Append(sized(t, left+1, 1)) })
				add(t, l, sized(t, left, 1))
			}
			if want := left * max(0, 1-left/7); l.Room() != want {
				t.Errorf("room %d, not %d", l.Room(), want)
			}
			refuses(t, "no room", d, l, api.ErrFull, func() api.Errno { return l.Append(rec(1, "")) })
			c := d.Copy()
			c.Crash(func(int) bool { return true })
			c.Up()
			_, all, e := wal.Open(c)
			if want := min(left/7, 1) + 1; e != api.OK || len(all) != want {
				t.Errorf("%d sectors, %d left: %d records, %d, not %d", n, left, len(all), e, want)
			}
			// A full log is rewritten as it is.
			if e := l.Rewrite(all); e != api.OK {
				t.Errorf("Rewrite: %d", e)
			}
			open(t, "rewritten", d, all...)
		}
	}
}

func TestAppendErrors(t *testing.T) {
	d := made(t, 6)
	l := format(t, d)
	add(t, l, rec(1, "a"))
	long := string(make([]byte, 1025))
	for range 2 {
		for _, x := range []struct {
			what string
			r    frame.Record
			want api.Errno
		}{
			{"the seal's kind", sealed, api.ErrArg},
			{"the seal's kind, with data", rec(255, "x"), api.ErrArg},
			{"the seal's kind, too long", rec(255, long), api.ErrArg},
			{"too long", rec(1, long), api.ErrLong},
			{"much too long", rec(0, strings.Repeat(long, 100)), api.ErrLong},
			{"too long for the half", rec(1, long[:1024]), api.ErrFull},
		} {
			refuses(t, x.what, d, l, x.want, func() api.Errno { return l.Append(x.r) })
		}
		// Of one that is down just what would go in has another error.
		d.Crash(func(int) bool { return true })
		refuses(t, "down", d, l, api.ErrDisk, func() api.Errno { return l.Append(rec(1, "b")) })
		refuses(t, "down", d, l, api.ErrDisk, l.Sync)
	}
	d.Up()
	add(t, l, rec(1, "b"))
	sync(t, l)
	open(t, "up again", d, recs("a", "b")...)
}

// The longest record goes in.
func TestAppendLongest(t *testing.T) {
	d := made(t, 64)
	l := format(t, d)
	r := frame.Record{Kind: 254, Data: bytes.Repeat([]byte("abcd"), 256)}
	add(t, l, r)
	rewrite(t, l, r)
	open(t, "the longest one", d, r)
}

// P5.1: Sync

func TestSync(t *testing.T) {
	d := made(t, 8)
	l := format(t, d)
	sync(t, l)
	add(t, l, recs("a", "b")...)
	sync(t, l)
	sync(t, l)
	add(t, l, rec(1, "c"))
	is(t, "synced", l, 1, 4, append([]frame.Record{sealed}, recs("a", "b", "c")...)...)
	d.Crash(nil)
	if e := l.Sync(); e != api.ErrDisk {
		t.Errorf("down: %d", e)
	}
	d.Up()
	open(t, "crashed", d, recs("a", "b")...)
}

// P5.1: Rewrite

func TestRewrite(t *testing.T) {
	for _, n := range []int{12, 13} {
		half := n / 2
		d := made(t, n)
		l := format(t, d)
		add(t, l, recs("a", "b", "c")...)
		rewrite(t, l, recs("b", "c")...)
		is(t, "rewritten", l, 2, half, append(recs("b", "c"), sealed)...)
		holds(t, "rewritten", d, half, laid(2, chain(t, append(recs("b", "c"), sealed)...))...)
		if len(waits(d)) != 0 {
			t.Error("it isn't synced")
		}
		c := d.Copy()
		c.Crash(nil)
		c.Up()
		open(t, "rewritten, and crashed", c, recs("b", "c")...)
		add(t, l, rec(1, "d"))
		rewrite(t, l)
		is(t, "of nothing", l, 3, half, sealed)
		holds(t, "of nothing", d, 0, laid(3, chain(t, sealed))...)
		add(t, l, rec(1, "e"))
		is(t, "of nothing, and one", l, 3, half, sealed, rec(1, "e"))
		rewrite(t, l, recs("f")...)
		add(t, l, rec(1, "g"))
		is(t, "at last", l, 4, half, rec(1, "f"), sealed, rec(1, "g"))
		holds(t, "at last", d, half, laid(4, chain(t, rec(1, "f"), sealed, rec(1, "g")))...)
		d.Crash(nil)
		d.Up()
		is(t, "opened", open(t, "at last", d, rec(1, "f")), 5, half, rec(1, "f"), sealed)
	}
}

// A base that fits to the last byte, its seal behind it, goes in, and no other one.
func TestRewriteErrFull(t *testing.T) {
	for _, n := range []int{4, 7, 10} {
		half := n / 2
		d := made(t, n)
		l := format(t, d)
		add(t, l, rec(1, "a"))
		fits := sized(t, half*55-7, 0)
		for range 3 {
			refuses(t, "one byte more", d, l, api.ErrFull, func() api.Errno {
				return l.Rewrite([]frame.Record{sized(t, half*55-7+1, 1)})
			})
			refuses(t, "one more", d, l, api.ErrFull, func() api.Errno {
				return l.Rewrite([]frame.Record{fits, rec(1, "")})
			})
			refuses(t, "one more ahead", d, l, api.ErrFull, func() api.Errno {
				return l.Rewrite([]frame.Record{rec(1, ""), fits})
			})
			refuses(t, "many", d, l, api.ErrFull, func() api.Errno {
				return l.Rewrite(slices.Repeat([]frame.Record{rec(1, "many")}, 1000))
			})
		}
		rewrite(t, l, fits)
		if l.Room() != 0 || l.Turn() != 2 {
			t.Errorf("room %d, turn %d", l.Room(), l.Turn())
		}
		refuses(t, "full", d, l, api.ErrFull, func() api.Errno { return l.Append(rec(1, "")) })
		open(t, "full", d, fits)
	}
}

func TestRewriteErrors(t *testing.T) {
	d := made(t, 6)
	l := format(t, d)
	add(t, l, rec(1, "a"))
	long, full := rec(1, string(make([]byte, 1025))), rec(1, string(make([]byte, 1024)))
	for range 2 {
		for _, x := range []struct {
			what string
			base []frame.Record
			want api.Errno
		}{
			{"the seal's kind", []frame.Record{sealed}, api.ErrArg},
			{"the seal's kind, with data", []frame.Record{rec(1, "a"), rec(255, "x")}, api.ErrArg},
			{"the seal's kind behind one too long", []frame.Record{long, full, sealed}, api.ErrArg},
			{"the seal's kind ahead", []frame.Record{sealed, long}, api.ErrArg},
			{"too long", []frame.Record{long}, api.ErrLong},
			{"too long behind what has no room", []frame.Record{full, full, rec(1, "a"), long}, api.ErrLong},
			{"no room", []frame.Record{full}, api.ErrFull},
		} {
			refuses(t, x.what, d, l, x.want, func() api.Errno { return l.Rewrite(x.base) })
		}
		d.Crash(func(int) bool { return true })
		refuses(t, "down", d, l, api.ErrDisk, func() api.Errno { return l.Rewrite(recs("b")) })
		refuses(t, "down", d, l, api.ErrDisk, func() api.Errno { return l.Rewrite(nil) })
	}
	d.Up()
	add(t, l, rec(1, "b"))
	is(t, "up again", l, 1, 3, sealed, rec(1, "a"), rec(1, "b"))
	open(t, "up again", d, recs("a", "b")...)
}

func TestNilLog(t *testing.T) {
	var l *wal.Log
	if e := l.Append(rec(1, "a")); e != api.ErrArg {
		t.Error(e)
	}
	if e := l.Append(rec(1, string(make([]byte, 1025)))); e != api.ErrArg {
		t.Error(e)
	}
	if e := l.Sync(); e != api.ErrArg {
		t.Error(e)
	}
	if e := l.Rewrite(nil); e != api.ErrArg {
		t.Error(e)
	}
	if e := l.Rewrite([]frame.Record{rec(1, string(make([]byte, 1025)))}); e != api.ErrArg {
		t.Error(e)
	}
	if l.Room() != 0 || l.Turn() != 0 {
		t.Error(l.Room(), l.Turn())
	}
}

// One that no function of the package made doesn't panic.
func TestLogOfNothing(t *testing.T) {
	l := &wal.Log{}
	if l.Append(rec(1, "a")) == api.OK || l.Sync() == api.OK || l.Rewrite(nil) == api.OK || l.Room() != 0 || l.Turn() != 0 {
		t.Error("a log of nothing takes records")
	}
}

// P5.2

// crashes is each way in which a crash keeps writings of so many, or, of many, some ways.
func crashes(n int, chance *rand.Rand) [][]bool {
	var all [][]bool
	if n <= 7 {
		for choice := range 1 << n {
			kept := make([]bool, n)
			for i := range kept {
				kept[i] = choice>>i&1 == 1
			}
			all = append(all, kept)
		}
		return all
	}
	for range 60 {
		kept := make([]bool, n)
		part := chance.Intn(100)
		for i := range kept {
			kept[i] = chance.Intn(100) < part
		}
		all = append(all, kept)
	}
	all = append(all, make([]bool, n), slices.Repeat([]bool{true}, n))
	for i := range n {
		one, other := make([]bool, n), slices.Repeat([]bool{true}, n)
		one[i], other[i] = true, false
		all = append(all, one, other)
	}
	return all
}

// crashed is a copy of a disk, behind a crash that keeps just these.
func crashed(d *disk.Disk, kept []bool) *disk.Disk {
	c := d.Copy()
	c.Crash(func(i int) bool { return kept[i] })
	c.Up()
	return c
}

// beginning holds records against those that were synced, and a beginning of those behind.
func beginning(t *testing.T, what string, got, all []frame.Record, synced int) {
	t.Helper()
	if len(got) < synced || len(got) > len(all) || !slices.EqualFunc(got, all[:len(got)], same) {
		t.Fatalf("%s: %d records, of %d synced ones and %d in all:\n%v\n%v", what, len(got), synced, len(all), got, all)
	}
}

// torn is a disk as it was, with those sectors written, and waiting, that it has otherwise later: a call's writings, ahead of its sync.
func torn(t *testing.T, before, later *disk.Disk) *disk.Disk {
	t.Helper()
	c := before.Copy()
	one, other := read(t, before), read(t, later)
	for i := 0; i < len(one); i += 64 {
		if !bytes.Equal(one[i:i+64], other[i:i+64]) {
			if e := c.Write(i/64, other[i:i+64]); e != api.OK {
				t.Fatal(e)
			}
		}
	}
	return c
}

// outlives crashes a disk in each way, opens it, and crashes that in each way, too.
func outlives(t *testing.T, d *disk.Disk, all []frame.Record, synced, deep int, chance *rand.Rand) {
	t.Helper()
	for _, kept := range crashes(len(waits(d)), chance) {
		c := crashed(d, kept)
		before := c.Copy()
		_, got, e := wal.Open(c)
		if e != api.OK {
			t.Fatalf("Open: %d, with %v kept", e, kept)
		}
		beginning(t, "crashed", got, all, synced)
		if deep > 0 {
			// What this Open told is there for good, whatever becomes of its writings.
			outlives(t, torn(t, before, c), got, len(got), deep-1, chance)
		}
		open(t, "again", c, got...)
	}
}

// All ways in which crashes may keep writings of some records, synced at any place.
func TestCrashes(t *testing.T) {
	chance := rand.New(rand.NewSource(5))
	for _, sizes := range [][]int{{10, 10, 10}, {30, 30, 30}, {48, 55, 20}, {47, 55, 56}, {100, 7, 60}, {7, 150, 7}, {41, 7, 55, 7}} {
		for synced := range len(sizes) + 1 {
			d := made(t, 16)
			l := format(t, d)
			var all []frame.Record
			for i, n := range sizes {
				if i == synced {
					sync(t, l)
				}
				all = append(all, sized(t, n, i))
				add(t, l, all[i])
			}
			if synced == len(sizes) {
				sync(t, l)
			}
			outlives(t, d, all, synced, 1, chance)
		}
	}
}

// While a base is written, the log is the one that it was, or the one that it shall be; what waits of the old half may be lost, too.
func TestCrashesWhileRewritten(t *testing.T) {
	chance := rand.New(rand.NewSource(6))
	for _, sizes := range [][]int{{}, {10}, {48}, {49}, {55, 55}, {120, 30}} {
		for _, late := range []int{0, 1, 2} {
			d := made(t, 12)
			l := format(t, d)
			// Both halves have bytes of older turns.
			rewrite(t, l, sized(t, 200, 40))
			rewrite(t, l, sized(t, 180, 41))
			all := []frame.Record{sized(t, 180, 41), sized(t, 20, 42)}
			add(t, l, all[1])
			sync(t, l)
			for i := range late {
				all = append(all, sized(t, 25+i, 43+i))
				add(t, l, all[2+i])
			}
			var base []frame.Record
			for i, n := range sizes {
				base = append(base, sized(t, n, 50+i))
			}
			before := d.Copy()
			rewrite(t, l, base...)
			// The old half is the first one here: what waits of it waits still, ahead of what is written.
			midst := torn(t, before, d)
			for _, kept := range crashes(len(waits(midst)), chance) {
				c := crashed(midst, kept)
				_, got, e := wal.Open(c)
				if e != api.OK {
					t.Fatalf("Open: %d", e)
				}
				if !slices.EqualFunc(got, base, same) {
					beginning(t, "the old one", got, all, 2)
				}
			}
			outlives(t, d, base, len(base), 1, chance)
		}
	}
}

// A crash while a disk is formatted leaves the log that was there.
func TestCrashesWhileFormatted(t *testing.T) {
	chance := rand.New(rand.NewSource(7))
	for rounds := range 3 {
		d := made(t, 9)
		l := format(t, d)
		for range rounds {
			rewrite(t, l, recs("a")...)
		}
		add(t, l, rec(1, "b"))
		sync(t, l)
		before := d.Copy()
		format(t, d)
		for _, kept := range crashes(1, chance) {
			c := crashed(torn(t, before, d), kept)
			if _, all, e := wal.Open(c); e != api.OK || len(all) != 0 && !same(all[len(all)-1], rec(1, "b")) {
				t.Errorf("%d rounds, %v: %v, %d", rounds, kept, all, e)
			}
		}
		open(t, "formatted", d)
	}
}

// life is a log in the words of the document: all its records, and how many of them are synced.
type life struct {
	t      *testing.T
	chance *rand.Rand
	d      *disk.Disk
	l      *wal.Log
	all    []frame.Record
	synced int
	turn   uint64
}

func (x *life) append() {
	r := frame.Record{Kind: byte(x.chance.Intn(255)), Data: make([]byte, x.chance.Intn(90))}
	x.chance.Read(r.Data)
	room := x.l.Room()
	e := x.l.Append(r)
	switch fits := frame.Size(r) <= room; {
	case fits && e == api.OK:
		x.all = append(x.all, r)
	case !fits && e == api.ErrFull:
		x.rewrite()
	default:
		x.t.Fatalf("Append of %d bytes into %d: %d", frame.Size(r), room, e)
	}
}

func (x *life) rewrite() {
	x.all = x.all[x.chance.Intn(len(x.all)+1):]
	if e := x.l.Rewrite(x.all); e != api.OK {
		x.t.Fatalf("Rewrite: %d", e)
	}
	x.synced, x.turn = len(x.all), x.turn+1
}

// crash crashes the disk, opens it, and, at times, crashes it in the midst of that.
func (x *life) crash() {
	part := x.chance.Intn(101)
	keep := func(int) bool { return x.chance.Intn(100) < part }
	x.d.Crash(keep)
	x.d.Up()
	for {
		before := x.d.Copy()
		l, got, e := wal.Open(x.d)
		if e != api.OK {
			x.t.Fatalf("Open: %d", e)
		}
		beginning(x.t, "a life", got, x.all, x.synced)
		if l.Turn() <= x.turn {
			x.t.Fatalf("turn %d behind %d", l.Turn(), x.turn)
		}
		x.l, x.all, x.synced = l, got, len(got)
		if x.chance.Intn(3) > 0 {
			x.turn = l.Turn()
			return
		}
		x.d = torn(x.t, before, x.d)
		x.d.Crash(keep)
		x.d.Up()
	}
}

func TestLongLives(t *testing.T) {
	for seed := range 40 {
		chance := rand.New(rand.NewSource(int64(seed)))
		d := made(t, 6+chance.Intn(40))
		x := &life{t: t, chance: chance, d: d, l: format(t, d), turn: 1}
		for range 300 {
			switch chance.Intn(12) {
			case 0:
				x.crash()
			case 1, 2:
				sync(t, x.l)
				x.synced = len(x.all)
			case 3:
				if chance.Intn(4) == 0 {
					x.rewrite()
				}
			default:
				x.append()
			}
			if x.l.Turn() != x.turn {
				t.Fatalf("turn %d, not %d", x.l.Turn(), x.turn)
			}
		}
		x.crash()
	}
}

// Whatever a disk has: Open ends, and, if it tells records, the log has just these.
func TestAnyDisk(t *testing.T) {
	opened := 0
	for seed := range 3000 {
		chance := rand.New(rand.NewSource(int64(seed)))
		n := 4 + chance.Intn(9)
		d := made(t, n)
		l := format(t, d)
		for range chance.Intn(4) {
			rewrite(t, l, sized(t, 7+chance.Intn(80), 1))
			if r := sized(t, 7+chance.Intn(80), 2); frame.Size(r) <= l.Room() {
				add(t, l, r)
			}
		}
		b := read(t, d)
		for range chance.Intn(6) {
			b[chance.Intn(4)*64+chance.Intn(12)] = byte(chance.Intn(256) >> chance.Intn(8))
		}
		for i := range n {
			put(t, d, i, b[64*i:64*i+64])
		}
		l, all, e := wal.Open(d)
		if e == api.ErrNone || e == api.ErrRange {
			if l != nil || len(all) != 0 || !bytes.Equal(read(t, d), b) {
				t.Fatalf("%d: %v, %v", e, l, all)
			}
			continue
		}
		if e != api.OK {
			t.Fatal(e)
		}
		opened++
		is(t, "any", l, l.Turn(), n/2, append(slices.Clone(all), sealed)...)
		open(t, "any", d, all...)
	}
	if opened < 300 {
		t.Errorf("just %d were opened", opened)
	}
}

func TestNothingIsChangedOrKept(t *testing.T) {
	d := made(t, 32)
	l := format(t, d)
	data := []byte("some bytes, and spare room behind them")
	before := bytes.Clone(data)
	if e := l.Append(frame.Record{Kind: 1, Data: data[:10]}); e != api.OK || !bytes.Equal(data, before) {
		t.Errorf("Append: %d, %q", e, data)
	}
	clear(data)
	add(t, l, rec(1, "b"))
	c := d.Copy()
	open(t, "appended", c, recs("some bytes", "b")...)

	copy(data, before)
	base := []frame.Record{{Kind: 1, Data: data[:10]}, rec(2, "behind"), rec(3, "spare")}
	if e := l.Rewrite(base[:1]); e != api.OK || !bytes.Equal(data, before) || !same(base[1], rec(2, "behind")) || !same(base[2], rec(3, "spare")) {
		t.Errorf("Rewrite: %d, %v", e, base)
	}
	clear(data)
	clear(base)
	add(t, l, rec(1, "b"))
	open(t, "rewritten", d, recs("some bytes", "b")...)
}

func TestAnswersAreNewMemory(t *testing.T) {
	d := made(t, 32)
	l := format(t, d)
	add(t, l, recs("one", "two")...)
	l, got, e := wal.Open(d)
	if e != api.OK || len(got) != 2 {
		t.Fatal(e)
	}
	before := read(t, d)
	_ = append(got[0].Data, "more"...)
	if !same(got[1], rec(1, "two")) {
		t.Error("records share memory")
	}
	for _, r := range got {
		clear(r.Data)
	}
	clear(got)
	if !bytes.Equal(read(t, d), before) {
		t.Error("the disk shares memory with an answer")
	}
	add(t, l, rec(1, "three"))
	open(t, "cleared", d, recs("one", "two", "three")...)
}

// The document's example.
func TestExample(t *testing.T) {
	d := made(t, 4)
	l := format(t, d)
	add(t, l, rec(1, "a"))
	sync(t, l)
	add(t, l, rec(1, "b"))
	d.Crash(nil)
	d.Up()
	open(t, "the example", d, rec(1, "a"))
}
