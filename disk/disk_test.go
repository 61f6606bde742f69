package disk_test

import (
	"bytes"
	"math"
	"math/rand"
	"slices"
	"testing"

	"compline/api"
	"compline/disk"
)

// made is a disk of so many sectors.
func made(t *testing.T, n int) *disk.Disk {
	t.Helper()
	d, e := disk.New(n)
	if e != api.OK || d == nil {
		t.Fatalf("New(%d): %v, %d", n, d, e)
	}
	return d
}

// put writes a text into a sector.
func put(t *testing.T, d *disk.Disk, at int, s string) {
	t.Helper()
	if e := d.Write(at, []byte(s)); e != api.OK {
		t.Fatalf("Write(%d, %q): %d", at, s, e)
	}
}

// sync syncs a disk that is up.
func sync(t *testing.T, d *disk.Disk) {
	t.Helper()
	if e := d.Sync(); e != api.OK {
		t.Fatalf("Sync: %d", e)
	}
}

// filled is sectors' bytes with these texts at their beginnings.
func filled(texts ...string) []byte {
	b := make([]byte, 64*len(texts))
	for i, s := range texts {
		copy(b[64*i:], s)
	}
	return b
}

// holds holds a disk that is up against its sectors' texts.
func holds(t *testing.T, what string, d *disk.Disk, texts ...string) {
	t.Helper()
	b, e := d.Read(0, len(texts))
	if e != api.OK || !bytes.Equal(b, filled(texts...)) {
		t.Errorf("%s: %q, %d, not %q", what, b, e, texts)
	}
}

// waiting holds what waits against the sectors that are wanted, in their order.
func waiting(t *testing.T, what string, d *disk.Disk, want ...int) {
	t.Helper()
	var got []int
	for i, at := range d.Waits() {
		if i != len(got) {
			t.Errorf("%s: number %d comes as number %d", what, i, len(got))
		}
		got = append(got, at)
	}
	if !slices.Equal(got, want) {
		t.Errorf("%s: %v wait, not %v", what, got, want)
	}
}

// dead holds a disk that is down against that.
func dead(t *testing.T, what string, d *disk.Disk) {
	t.Helper()
	if !d.Down() {
		t.Errorf("%s: it isn't down", what)
	}
	for _, n := range []int{math.MinInt, -1, 0, 1, math.MaxInt} {
		if b, e := d.Read(0, n); e != api.ErrDisk || len(b) != 0 {
			t.Errorf("%s: Read: %v, %d", what, b, e)
		}
		if e := d.Write(n, make([]byte, 65)); e != api.ErrDisk {
			t.Errorf("%s: Write(%d): %d", what, n, e)
		}
	}
	if e := d.Write(0, []byte("x")); e != api.ErrDisk {
		t.Errorf("%s: Write: %d", what, e)
	}
	if e := d.Sync(); e != api.ErrDisk {
		t.Errorf("%s: Sync: %d", what, e)
	}
	waiting(t, what, d)
}

// only keeps just these.
func only(kept ...int) func(int) bool {
	return func(i int) bool { return slices.Contains(kept, i) }
}

func all(int) bool { return true }

// P4.1

func TestNew(t *testing.T) {
	for _, n := range []int{1, 2, 64, 4095, 4096} {
		d := made(t, n)
		if d.Len() != n || d.Down() {
			t.Errorf("New(%d): Len %d, Down %t", n, d.Len(), d.Down())
		}
		holds(t, "new", d, make([]string, n)...)
		waiting(t, "new", d)
		put(t, d, n-1, "last")
		if e := d.Write(n, nil); e != api.ErrRange {
			t.Errorf("Write(%d) of %d: %d", n, n, e)
		}
	}
	for _, n := range []int{0, -1, -4096, 4097, 1 << 20, math.MinInt, math.MaxInt, math.MinInt32, 1<<32 + 1} {
		if d, e := disk.New(n); d != nil || e != api.ErrArg {
			t.Errorf("New(%d): %v, %d", n, d, e)
		}
	}
}

func TestRead(t *testing.T) {
	d := made(t, 5)
	texts := []string{"a", "b", "c", "d", "e"}
	for i, s := range texts {
		put(t, d, i, s)
	}
	for from := range 6 {
		for n := range 6 - from {
			b, e := d.Read(from, n)
			if e != api.OK || !bytes.Equal(b, filled(texts[from:from+n]...)) {
				t.Errorf("Read(%d, %d): %q, %d", from, n, b, e)
			}
		}
	}
}

func TestReadErrRange(t *testing.T) {
	d := made(t, 5)
	for _, x := range [][2]int{
		{0, 6}, {1, 5}, {4, 2}, {5, 1}, {6, 0}, {6, 1}, {6, -1}, {-1, 0}, {-1, 1}, {-1, 2}, {-5, 6}, {0, -1}, {3, -1}, {5, -5},
		{math.MaxInt, 0}, {math.MaxInt, 1}, {math.MaxInt, math.MaxInt}, {1, math.MaxInt}, {5, math.MaxInt}, {0, math.MaxInt},
		{math.MinInt, 0}, {math.MinInt, math.MinInt}, {math.MinInt, math.MaxInt}, {0, math.MinInt}, {5, math.MinInt}, {1 << 32, 1}, {0, 1<<32 + 1},
	} {
		if b, e := d.Read(x[0], x[1]); e != api.ErrRange || len(b) != 0 {
			t.Errorf("Read(%d, %d): %v, %d", x[0], x[1], b, e)
		}
	}
}

func TestWrite(t *testing.T) {
	for n := range 65 {
		d := made(t, 3)
		if e := d.Write(1, bytes.Repeat([]byte{0xFF}, 64)); e != api.OK {
			t.Fatal(e)
		}
		want := make([]byte, 3*64)
		for i := range n {
			want[64+i] = byte(i + 1)
		}
		if e := d.Write(1, want[64:64+n]); e != api.OK {
			t.Errorf("Write of %d bytes: %d", n, e)
		}
		if b, e := d.Read(0, 3); e != api.OK || !bytes.Equal(b, want) {
			t.Errorf("behind %d bytes: %v, %d", n, b, e)
		}
		waiting(t, "two writings of one sector", d, 1, 1)
		sync(t, d)
		d.Crash(nil)
		d.Up()
		if b, e := d.Read(0, 3); e != api.OK || !bytes.Equal(b, want) {
			t.Errorf("behind %d bytes, and a crash: %v, %d", n, b, e)
		}
	}
}

func TestWriteErrors(t *testing.T) {
	d := made(t, 3)
	put(t, d, 2, "c")
	for _, at := range []int{-1, 3, 4, 4096, math.MinInt, math.MaxInt, 1 << 32, 1<<32 + 1} {
		for _, n := range []int{0, 1, 64, 65, 4096} {
			if e := d.Write(at, make([]byte, n)); e != api.ErrRange {
				t.Errorf("Write(%d) of %d bytes: %d", at, n, e)
			}
		}
	}
	for _, n := range []int{65, 66, 128, 1 << 16} {
		for at := range 3 {
			if e := d.Write(at, bytes.Repeat([]byte{1}, n)); e != api.ErrLong {
				t.Errorf("Write(%d) of %d bytes: %d", at, n, e)
			}
		}
	}
	holds(t, "behind writings that were refused", d, "", "", "c")
	waiting(t, "behind writings that were refused", d, 2)
}

func TestSync(t *testing.T) {
	d := made(t, 3)
	sync(t, d)
	put(t, d, 2, "c")
	put(t, d, 0, "a")
	put(t, d, 2, "C")
	waiting(t, "three", d, 2, 0, 2)
	sync(t, d)
	waiting(t, "synced", d)
	holds(t, "synced", d, "a", "", "C")
	sync(t, d)
	holds(t, "synced twice", d, "a", "", "C")
	put(t, d, 1, "b")
	waiting(t, "one more", d, 1)
	d.Crash(only())
	d.Up()
	holds(t, "behind a crash", d, "a", "", "C")
}

func TestWaits(t *testing.T) {
	d := made(t, 4)
	for _, at := range []int{3, 0, 0, 2, 3, 3} {
		put(t, d, at, "x")
	}
	w := d.Waits()
	for range 2 {
		var got []int
		for i, at := range w {
			got = append(got, i, at)
			inner := 0
			for range w {
				inner++
			}
			if inner != 6 {
				t.Errorf("%d within a round", inner)
			}
		}
		if want := []int{0, 3, 1, 0, 2, 0, 3, 2, 4, 3, 5, 3}; !slices.Equal(got, want) {
			t.Errorf("%v, not %v", got, want)
		}
	}
	for most := 1; most <= 6; most++ {
		n := 0
		for range w {
			if n++; n == most {
				break
			}
		}
		if n != most {
			t.Errorf("left behind %d, not %d", n, most)
		}
	}
	w(nil)
	waiting(t, "behind all that", d, 3, 0, 0, 2, 3, 3)
}

// Who writes for each one that waits comes to an end.
func TestWaitsWhileWritten(t *testing.T) {
	d := made(t, 4)
	put(t, d, 1, "x")
	put(t, d, 2, "x")
	for i := range d.Waits() {
		if i > 1 {
			t.Fatal("what is written in the midst is told")
		}
		put(t, d, 3, "y")
	}
	waiting(t, "behind the round", d, 1, 2, 3, 3)
}

// Which ones are kept: each choice of five writings, two of which are of one sector.
func TestCrash(t *testing.T) {
	at := []int{1, 0, 1, 3, 1}
	texts := []string{"one", "two", "three, longer", "four", "5"}
	for choice := range 1 << 5 {
		d := made(t, 4)
		put(t, d, 1, "synced")
		put(t, d, 2, "synced too")
		sync(t, d)
		want := []string{"", "synced", "synced too", ""}
		for i, s := range texts {
			put(t, d, at[i], s)
			if choice>>i&1 == 1 {
				want[at[i]] = s
			}
		}
		holds(t, "ahead of the crash", d, "two", "5", "synced too", "four")
		var asked []int
		d.Crash(func(i int) bool {
			asked = append(asked, i)
			return choice>>i&1 == 1
		})
		if !slices.Equal(asked, []int{0, 1, 2, 3, 4}) {
			t.Errorf("asked of %v", asked)
		}
		dead(t, "behind the crash", d)
		if d.Len() != 4 {
			t.Errorf("Len %d", d.Len())
		}
		d.Up()
		waiting(t, "up again", d)
		holds(t, "up again", d, want...)
		// What was kept stays, like what was synced.
		d.Crash(all)
		d.Up()
		holds(t, "behind another crash", d, want...)
	}
}

func TestCrashKeepsNoneWithoutFunction(t *testing.T) {
	d := made(t, 2)
	put(t, d, 0, "a")
	sync(t, d)
	put(t, d, 0, "b")
	put(t, d, 1, "c")
	d.Crash(nil)
	dead(t, "behind a crash", d)
	d.Up()
	holds(t, "up again", d, "a", "")
}

// What doesn't wait isn't asked of.
func TestCrashOfNothing(t *testing.T) {
	none := func(i int) bool {
		t.Errorf("asked of %d", i)
		return true
	}
	d := made(t, 2)
	d.Crash(none)
	dead(t, "new", d)
	d.Crash(none)
	dead(t, "crashed twice", d)
	d.Up()
	put(t, d, 0, "a")
	sync(t, d)
	d.Crash(none)
	dead(t, "synced", d)
	d.Up()
	put(t, d, 1, "b")
	d.Crash(nil)
	d.Crash(none)
	d.Up()
	d.Crash(none)
	d.Up()
	holds(t, "at last", d, "a", "")
}

// A function that panics tells of that writing alone nothing: it is lost.
func TestCrashWhereKeepPanics(t *testing.T) {
	d := made(t, 4)
	for i := range 4 {
		put(t, d, i, "x")
	}
	d.Crash(func(i int) bool {
		if i%2 == 1 {
			panic(i)
		}
		return true
	})
	dead(t, "behind a crash", d)
	d.Up()
	holds(t, "up again", d, "x", "", "x", "")
}

// While keep is asked, all of them wait, and the disk is as it was.
func TestCrashAsksAheadOfIt(t *testing.T) {
	d := made(t, 3)
	for i, s := range []string{"a", "b", "c"} {
		put(t, d, i, s)
	}
	d.Crash(func(i int) bool {
		if d.Down() {
			t.Error("down already")
		}
		waiting(t, "asked", d, 0, 1, 2)
		holds(t, "asked", d, "a", "b", "c")
		return i == 2
	})
	d.Up()
	holds(t, "up again", d, "", "", "c")
}

// What keep does to the disk itself stands: what it synced is there, and what it writes is lost.
func TestCrashWhereKeepWorks(t *testing.T) {
	d := made(t, 2)
	put(t, d, 0, "a")
	put(t, d, 0, "b")
	d.Crash(func(i int) bool {
		d.Sync()
		return i == 0
	})
	dead(t, "synced in the midst", d)
	d.Up()
	holds(t, "synced in the midst", d, "b", "")
	put(t, d, 1, "c")
	d.Crash(func(i int) bool {
		put(t, d, 1, "d")
		return true
	})
	dead(t, "written in the midst", d)
	d.Up()
	holds(t, "written in the midst", d, "b", "c")
	put(t, d, 1, "e")
	d.Crash(func(i int) bool {
		d.Crash(nil)
		return true
	})
	dead(t, "crashed in the midst", d)
	d.Up()
	holds(t, "crashed in the midst", d, "b", "c")
}

func TestUp(t *testing.T) {
	d := made(t, 2)
	d.Up()
	put(t, d, 1, "b")
	d.Up()
	waiting(t, "up already", d, 1)
	holds(t, "up already", d, "", "b")
	d.Crash(all)
	d.Up()
	if d.Down() {
		t.Error("down")
	}
	put(t, d, 0, "a")
	holds(t, "up again", d, "a", "b")
	waiting(t, "up again", d, 0)
	sync(t, d)
	d.Up()
	holds(t, "twice", d, "a", "b")
}

func TestDownIsLeftAsItIs(t *testing.T) {
	d := made(t, 2)
	put(t, d, 0, "a")
	d.Crash(all)
	dead(t, "down", d)
	dead(t, "still", d)
	d.Up()
	holds(t, "what was asked while it was down left nothing", d, "a", "")
	waiting(t, "what was asked while it was down left nothing", d)
}

func TestCopy(t *testing.T) {
	d := made(t, 3)
	put(t, d, 0, "a")
	sync(t, d)
	put(t, d, 0, "b")
	put(t, d, 1, "c")
	c := d.Copy()
	if c == d || c.Len() != 3 || c.Down() {
		t.Fatalf("Len %d, Down %t", c.Len(), c.Down())
	}
	waiting(t, "a copy", c, 0, 1)
	holds(t, "a copy", c, "b", "c", "")
	// Each one goes its own way.
	put(t, c, 2, "copy's")
	put(t, d, 2, "own")
	put(t, d, 0, "own too")
	waiting(t, "the copy", c, 0, 1, 2)
	waiting(t, "its original", d, 0, 1, 2, 0)
	holds(t, "the copy", c, "b", "c", "copy's")
	holds(t, "its original", d, "own too", "c", "own")
	sync(t, c)
	waiting(t, "its original, the copy synced", d, 0, 1, 2, 0)
	down := d.Copy()
	down.Crash(only(1))
	if d.Down() || c.Down() {
		t.Error("a copy's crash is another's")
	}
	dead(t, "a copy of one that is down", down.Copy())
	d.Crash(only(0, 2))
	if c.Down() {
		t.Error("a crash is the copy's")
	}
	d.Up()
	dead(t, "the crashed copy", down)
	down.Up()
	holds(t, "its original, crashed", d, "b", "", "own")
	holds(t, "the crashed copy", down, "a", "c", "")
	c.Crash(nil)
	c.Up()
	holds(t, "the synced copy, crashed", c, "b", "c", "copy's")
}

// Whatever room there is behind what waits: a copy's writings and its original's don't meet there.
func TestCopyOfManyThatWait(t *testing.T) {
	d := made(t, 40)
	for n := range 20 {
		c := d.Copy()
		put(t, c, n, "copy's")
		put(t, d, 20+n, "own")
		c.Crash(only(n))
		c.Up()
		want := make([]string, 40)
		want[n] = "copy's"
		holds(t, "a copy", c, want...)
	}
	d.Crash(all)
	d.Up()
	holds(t, "their original", d, slices.Concat(make([]string, 20), slices.Repeat([]string{"own"}, 20))...)
}

func TestNilDisk(t *testing.T) {
	var d *disk.Disk
	dead(t, "nil", d)
	if d.Len() != 0 || d.Copy() != nil {
		t.Errorf("Len %d, Copy %v", d.Len(), d.Copy())
	}
	d.Waits()(nil)
	d.Crash(func(i int) bool {
		t.Errorf("asked of %d", i)
		return true
	})
	d.Crash(nil)
	d.Up()
	dead(t, "nil, up", d)
}

// P4.2

// book is a disk in the words of the document: all that was written of each sector, and which of it counts.
type book struct {
	synced [][]byte
	at     []int
	bytes  [][]byte
	down   bool
}

func (b *book) crash(keep func(int) bool) {
	for i, at := range b.at {
		if keep(i) {
			b.synced[at] = b.bytes[i]
		}
	}
	b.at, b.bytes, b.down = nil, nil, true
}

func (b *book) read() []byte {
	now := slices.Clone(b.synced)
	for i, at := range b.at {
		now[at] = b.bytes[i]
	}
	return bytes.Join(now, nil)
}

// Long lives of disks, by chance, against the book's.
func TestLongLives(t *testing.T) {
	for life := range 60 {
		chance := rand.New(rand.NewSource(int64(life)))
		n := 1 + chance.Intn(8)
		d, b := made(t, n), &book{}
		for range n {
			b.synced = append(b.synced, make([]byte, 64))
		}
		for step := range 400 {
			switch x := chance.Intn(20); {
			case x < 14 && !b.down:
				text := make([]byte, chance.Intn(65))
				chance.Read(text)
				at := chance.Intn(n)
				put(t, d, at, string(text))
				b.at, b.bytes = append(b.at, at), append(b.bytes, append(text, make([]byte, 64-len(text))...))
			case x < 17 && !b.down:
				sync(t, d)
				b.crash(all)
				b.down = false
			case x < 18:
				choice := chance.Uint64()
				keep := func(i int) bool { return choice>>(i%64)&1 == 1 }
				d.Crash(keep)
				b.crash(keep)
			case x < 19:
				d = d.Copy()
			default:
				d.Up()
				b.down = false
			}
			if d.Down() != b.down || d.Len() != n {
				t.Fatalf("life %d, step %d: Down %t, Len %d", life, step, d.Down(), d.Len())
			}
			if b.down {
				dead(t, "down", d)
				continue
			}
			waiting(t, "a life", d, b.at...)
			if got, e := d.Read(0, n); e != api.OK || !bytes.Equal(got, b.read()) {
				t.Fatalf("life %d, step %d: %v, %d, not %v", life, step, got, e, b.read())
			}
		}
	}
}

func TestSyncedOutlivesCrashes(t *testing.T) {
	d := made(t, 4096)
	for i := range 4096 {
		put(t, d, i, string([]byte{byte(i), byte(i >> 8), 1}))
	}
	sync(t, d)
	want, _ := d.Read(0, 4096)
	for round := range 4 {
		for i := range 4096 {
			put(t, d, i, "lost")
		}
		put(t, d, round, "kept")
		copy(want[64*round:], filled("kept"))
		d.Crash(only(4096))
		d.Up()
		if b, e := d.Read(0, 4096); e != api.OK || !bytes.Equal(b, want) {
			t.Fatalf("round %d: another's bytes, %d", round, e)
		}
	}
}

func TestNothingIsChangedOrKept(t *testing.T) {
	d := made(t, 2)
	b := []byte("some bytes, and spare room behind them")
	before := bytes.Clone(b)
	if e := d.Write(0, b[:10]); e != api.OK {
		t.Fatal(e)
	}
	holds(t, "written", d, "some bytes", "")
	sync(t, d)
	put(t, d, 1, "x")
	d.Crash(nil)
	d.Up()
	if e := d.Write(1, b[:4]); e != api.OK || !bytes.Equal(b, before) {
		t.Errorf("%d, %q", e, b)
	}
	clear(b)
	holds(t, "what was handed in is cleared", d, "some bytes", "some")
	d.Crash(all)
	d.Up()
	holds(t, "and behind a crash", d, "some bytes", "some")
}

func TestAnswersAreNewMemory(t *testing.T) {
	d := made(t, 2)
	put(t, d, 0, "a")
	put(t, d, 1, "b")
	one, _ := d.Read(0, 2)
	other, _ := d.Read(0, 1)
	clear(one[:cap(one)])
	holds(t, "an answer is cleared", d, "a", "b")
	if !bytes.Equal(other, filled("a")) {
		t.Error("two answers share memory")
	}
	_ = append(other, "behind"...)
	holds(t, "an answer's spare room is written over", d, "a", "b")
	sync(t, d)
	one, _ = d.Read(0, 2)
	clear(one)
	d.Crash(nil)
	d.Up()
	holds(t, "an answer is cleared, and a crash", d, "a", "b")
	one, _ = d.Read(0, 2)
	put(t, d, 0, "c")
	if !bytes.Equal(one, filled("a", "b")) {
		t.Error("an answer hangs on the disk")
	}
}

// The document's example.
func TestExample(t *testing.T) {
	d := made(t, 1)
	put(t, d, 0, "a")
	sync(t, d)
	put(t, d, 0, "b")
	d.Crash(nil)
	d.Up()
	holds(t, "behind the crash", d, "a")
}
