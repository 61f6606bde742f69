package image_test

import (
	"bytes"
	"encoding/binary"
	"math"
	"slices"
	"strconv"
	"strings"
	"testing"
	"time"

	"compline/api"
	"compline/image"
	"compline/sched"
)

// P19.1: Restore

func TestRestore(t *testing.T) {
	s, e := image.Restore(fullBytes())
	if e != api.OK {
		t.Fatal(e)
	}
	same(t, "full", s, given(t, 70, 9, 300, full()...))
	s, e = image.Restore([]byte{0, 9, 0, 0})
	if e != api.OK {
		t.Fatal(e)
	}
	same(t, "new", s, fresh(t, 0, 9))
}

// TestNumbers: an image's own numbers, at their ends and beyond.
func TestNumbers(t *testing.T) {
	ticks := []int64{0, 1, 63, 64, last - 1, last, last + 1, -1, -2, -last, math.MaxInt64, math.MinInt64, 1<<32 + 5, 1<<63 - 1 - 5}
	many := []uint64{0, 1, 9, 127, 128, 129, 130, 255, 256, 256 + 9, 1 << 16, 1<<31 + 9, 1 << 32, 1<<32 + 9, 1<<63 - 1, 1 << 63, 1<<63 + 9, math.MaxUint64, math.MaxUint64 - 9}
	for _, now := range ticks {
		for _, each := range many {
			for _, order := range many {
				b := head(now, each, order, 0)
				want := api.OK
				if now < 0 || now > last || each > 128 {
					want = api.ErrArg
				}
				s, e := image.Restore(b)
				if e != want || (s != nil) != (e == api.OK) {
					t.Fatalf("%d, %d, %d: %v, %d, not %d", now, each, order, s, e, want)
				}
				if s != nil && (s.Now() != now || uint64(s.Each()) != each || s.Order() != order || s.Len() != 0 || !bytes.Equal(image.Of(s), b)) {
					t.Fatalf("%d, %d, %d: %d, %d, %d, %d jobs", now, each, order, s.Now(), s.Each(), s.Order(), s.Len())
				}
				// Chapter 1's errors are named ahead of them, chapter 17's others and names behind.
				refused(t, "no count", b[:len(b)-1], api.ErrShort)
				refused(t, "one byte more", append(slices.Clone(b), 0), api.ErrLong)
				if want == api.ErrArg {
					refused(t, "a spec that may not be", imageBytes(now, each, order, api.Job{}), api.ErrArg)
					refused(t, "falling names", imageBytes(now, each, order, api.Job{Spec: job("b"), State: api.Done}, api.Job{Spec: job("a"), State: api.Done}), api.ErrArg)
				}
			}
		}
	}
}

// TestEnd: what lacks bytes, or has one more, is no image.
func TestEnd(t *testing.T) {
	refused(t, "nothing", nil, api.ErrShort)
	refused(t, "nothing", []byte{}, api.ErrShort)
	falling := full()
	slices.Reverse(falling)
	for _, b := range [][]byte{{0, 9, 0, 0}, fullBytes(), imageBytes(70, 9, 0, full()...), imageBytes(-1, 9, 300, full()...), imageBytes(70, 9, 300, falling...)} {
		for n := range b {
			refused(t, "a beginning", b[:n], api.ErrShort)
		}
		for more := range 256 {
			refused(t, "one byte more", append(slices.Clone(b), byte(more)), api.ErrLong)
		}
		refused(t, "twice", slices.Concat(b, b), api.ErrLong)
	}
}

// TestForm: a number that isn't in its shortest form, or is beyond 64 bits, at each place.
func TestForm(t *testing.T) {
	plain := api.Job{Spec: api.Spec{Name: "a", Tenant: "t"}} // but for its texts, each byte is a number
	for _, jobs := range [][]api.Job{nil, {plain}, {plain, plain}} {
		b := imageBytes(0, 9, 0, jobs...)
		for at := range b {
			if b[at] == 'a' || b[at] == 't' {
				continue
			}
			for _, n := range [][]byte{{0x80, 0}, {0x81, 0x80, 0}, {255, 255, 255, 255, 255, 255, 255, 255, 255, 2}} {
				refused(t, "a number's form", slices.Concat(b[:at], n, b[at+1:]), api.ErrForm)
			}
		}
	}
}

// numbered is so many jobs, rising by names.
func numbered(n int) []api.Job {
	var l []api.Job
	for i := range n {
		l = append(l, api.Job{Spec: job("j" + strconv.Itoa(10000+i)), State: i % api.States})
	}
	return l
}

// TestMany: up to 128 jobs may be, and how many there are said to be is told ahead of what they are.
func TestMany(t *testing.T) {
	for _, n := range []int{0, 1, 2, 127, 128} {
		again(t, given(t, 5, 128, 0, numbered(n)...))
	}
	for _, n := range []int{129, 130, 256, 1000} {
		refused(t, "too many", imageBytes(5, 128, 0, numbered(n)...), api.ErrLong)
		refused(t, "too many, that may not be", imageBytes(5, 128, 0, make([]api.Job, n)...), api.ErrLong)
		refused(t, "too many, at no tick", imageBytes(-5, 129, 0, numbered(n)...), api.ErrLong)
	}
	for _, n := range []uint64{129, 255, 256, 1<<31 + 1, 1<<32 + 1, 1<<63 - 1, 1 << 63, math.MaxUint64} {
		refused(t, "too many, that aren't there", head(5, 9, 0, n), api.ErrLong)
		refused(t, "too many", append(head(5, 9, 0, n), imageBytes(0, 9, 0, numbered(1)...)...), api.ErrLong)
	}
	for n := range uint64(129) {
		if n > 0 {
			refused(t, "jobs that aren't there", head(5, 9, 0, n), api.ErrShort)
		}
	}
}

// TestTexts: of 255 bytes a job's text is read, of more it isn't.
func TestTexts(t *testing.T) {
	for n := range 300 {
		j := api.Job{Spec: job("a"), State: api.Leased, Due: 7, Worker: strings.Repeat("x", n)}
		s := given(t, 5, 9, 0, j)
		if n <= 255 {
			again(t, s)
			continue
		}
		// It is written all the same.
		b := image.Of(s)
		if !bytes.Equal(b, imageOf(s)) {
			t.Error(n, b)
		}
		refused(t, "a long text", b, api.ErrLong)
	}
	j := api.Job{Spec: job("a")}
	for n := 240; n < 300; n++ {
		text := strings.Repeat("x", n)
		for i, change := range []func(s *api.Spec){
			func(s *api.Spec) { s.Name = text },
			func(s *api.Spec) { s.Tenant = text },
			func(s *api.Spec) { s.Cron = text },
			func(s *api.Spec) { s.Deps = []string{"b", text} },
			func(s *api.Spec) { s.Deps = make([]string, n) },
		} {
			k := j
			change(&k.Spec)
			want := api.ErrForm // there is no such job
			if n > 255 {
				want = api.ErrLong
			}
			refused(t, "a long text of a spec, "+strconv.Itoa(i), imageBytes(5, 9, 0, k), want)
		}
	}
}

// TestNames: jobs that fall, or are there twice.
func TestNames(t *testing.T) {
	jobs := numbered(6)
	if reads(t, imageBytes(5, 9, 0, jobs...)) != api.OK {
		t.Fatal("rising")
	}
	for i := range jobs {
		for k := range i {
			other := slices.Clone(jobs)
			other[i], other[k] = other[k], other[i]
			refused(t, "falling", imageBytes(5, 9, 0, other...), api.ErrForm)
			other = slices.Clone(jobs)
			other[i].Spec.Name = other[k].Spec.Name
			refused(t, "two alike", imageBytes(5, 9, 0, other...), api.ErrForm)
		}
	}
	// Names rise byte by byte, not by numbers.
	for _, x := range [][2]string{{"a", "a-"}, {"a-", "a."}, {"a.", "a.1"}, {"a.10", "a.2"}, {"a.9", "a0"}, {"a9", "aa"}, {"az", "b"}} {
		one, other := api.Job{Spec: job(x[0])}, api.Job{Spec: job(x[1])}
		if reads(t, imageBytes(5, 9, 0, one, other)) != api.OK {
			t.Error(x, "rising")
		}
		refused(t, "falling", imageBytes(5, 9, 0, other, one), api.ErrForm)
	}
	// One may stand on another one that comes behind it.
	if reads(t, imageBytes(5, 9, 0, api.Job{Spec: job("a", "b")}, api.Job{Spec: job("b")})) != api.OK {
		t.Error("a on b")
	}
}

// TestJobs: what chapter 17 refuses, whatever else may be.
func TestJobs(t *testing.T) {
	ok := api.Job{Spec: job("a"), State: api.Ready, Order: 3, Due: 4}
	if reads(t, imageBytes(5, 1, 3, ok)) != api.OK {
		t.Fatal("it may be")
	}
	for i, change := range []func(j *api.Job){
		func(j *api.Job) { *j = api.Job{} },
		func(j *api.Job) { j.Spec.Name = "" },
		func(j *api.Job) { j.Spec.Tenant = "T" },
		func(j *api.Job) { j.Spec.Priority = 4 },
		func(j *api.Job) { j.Spec.Delay = -1 },
		func(j *api.Job) { j.Spec.Base = api.MaxSpan + 1 },
		func(j *api.Job) { j.Spec.Cap = -1 },
		func(j *api.Job) { j.Spec.Attempts = 0 },
		func(j *api.Job) { j.Spec.Lease = 0 },
		func(j *api.Job) { j.Spec.Catch = 1 },
		func(j *api.Job) { j.Spec.Cron, j.Spec.Catch = "60 * * * *", 1 },
		func(j *api.Job) { j.Spec.Deps = []string{"b"} },
		func(j *api.Job) { j.Spec.Deps = []string{"a"} },
		func(j *api.Job) { j.State = -1 },
		func(j *api.Job) { j.State = api.States },
		func(j *api.Job) { j.State = math.MinInt },
		func(j *api.Job) { j.Due = -1 },
		func(j *api.Job) { j.Due = last + 1 },
		func(j *api.Job) { j.Failed = -1 },
		func(j *api.Job) { j.Order = 4 },
		func(j *api.Job) { j.Order = math.MaxUint64 },
		func(j *api.Job) { j.Created = -1 },
		func(j *api.Job) { j.Runs = -1 },
		func(j *api.Job) { j.Missed = -1 },
	} {
		j := ok
		change(&j)
		b := imageBytes(5, 9, 3, j)
		refused(t, "change "+strconv.Itoa(i), b, api.ErrForm)
		// Chapter 1's errors, and that a tick can't be, are named ahead.
		refused(t, "one byte more", append(b, 0), api.ErrLong)
		refused(t, "a later job that ends", append(head(5, 9, 3, 2), b[4:]...), api.ErrShort)
		refused(t, "no tick", imageBytes(last+1, 9, 3, j), api.ErrArg)
		refused(t, "each too many", imageBytes(5, 129, 3, j), api.ErrArg)
	}
	one, other := ok, ok
	other.Spec.Name = "b"
	refused(t, "too many of a tenant", imageBytes(5, 1, 3, one, other), api.ErrForm)
	one.State = api.Done
	if reads(t, imageBytes(5, 1, 3, one, other)) != api.OK {
		t.Error("a job that is done counts")
	}
	one.Spec.Deps, other.Spec.Deps = []string{"b"}, []string{"a"}
	refused(t, "two on each other", imageBytes(5, 9, 3, one, other), api.ErrForm)
}

// TestShortBytes: all of up to three bytes, and of some bytes up to six, against the model.
func TestShortBytes(t *testing.T) {
	var all func(b []byte, left int, signs []byte)
	all = func(b []byte, left int, signs []byte) {
		reads(t, b)
		if left == 0 {
			return
		}
		for _, sign := range signs {
			all(append(b, sign), left-1, signs)
		}
	}
	var every []byte
	for i := range 256 {
		every = append(every, byte(i))
	}
	all(make([]byte, 0, 8), 2, every)
	all([]byte{0, 9}, 2, every)
	all(make([]byte, 0, 8), 6, []byte{0, 1, 2, 9, 127, 128, 129})
}

// TestRestoreMemory: what is handed in isn't changed or kept, its spare room neither.
func TestRestoreMemory(t *testing.T) {
	room := append(fullBytes(), 7, 7, 7)
	n := len(fullBytes())
	s, _ := image.Restore(room[:n])
	x, _ := image.Restore(room[:n])
	if !bytes.Equal(room, append(fullBytes(), 7, 7, 7)) {
		t.Error("what was handed in was changed:", room)
	}
	clear(room)
	same(t, "bytes that were changed", s, given(t, 70, 9, 300, full()...))
	for _, c := range []api.Command{{Kind: api.Cancel, Name: "a"}, {Kind: api.Forget, Name: "d"}, {Kind: api.Tick, Value: last}, {Kind: api.Submit, Spec: job("z")}} {
		if a := s.Do(c); a.Error != api.OK {
			t.Error(a)
		}
	}
	same(t, "another one went on", x, given(t, 70, 9, 300, full()...))
	if bytes.Equal(image.Of(s), image.Of(x)) {
		t.Error("it didn't go on")
	}
}

// TestFast: what is far too long is told in a short while.
func TestFast(t *testing.T) {
	begin := time.Now()
	long := make([]byte, 1<<26)
	refused(t, "a great many bytes", long, api.ErrLong)
	copy(long, head(5, 9, 0, 128))
	refused(t, "a great many bytes", long, api.ErrLong)
	copy(long, head(5, 9, 0, math.MaxUint64))
	refused(t, "a great many jobs", long, api.ErrLong)
	copy(long, binary.AppendUvarint(head(5, 9, 0, 1), 1<<26))
	refused(t, "a great name", long, api.ErrLong)
	s := given(t, 5, 128, 0, numbered(128)...)
	var x *sched.Sched
	for range 200 {
		x, _ = image.Restore(image.Of(s))
	}
	same(t, "restored", x, s)
	if d := time.Since(begin); d > 20*time.Second {
		t.Error("it took", d)
	}
}
