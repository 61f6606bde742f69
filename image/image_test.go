package image_test

import (
	"bytes"
	"hash/crc32"
	"math"
	"slices"
	"strconv"
	"strings"
	"testing"

	"compline/api"
	"compline/image"
	"compline/sched"
)

// P19.1: Of, Mark

// is holds a scheduler's image and its mark against bytes.
func is(t *testing.T, s *sched.Sched, want []byte) {
	t.Helper()
	if b := image.Of(s); !bytes.Equal(b, want) {
		t.Errorf("%v, not %v", b, want)
	}
	if m := image.Mark(s); m != crc32.ChecksumIEEE(want) {
		t.Errorf("mark %d, not %d", m, crc32.ChecksumIEEE(want))
	}
	if x, e := image.Restore(want); e != api.OK || !bytes.Equal(image.Of(x), want) {
		t.Errorf("restored: %v, %d, not %v", image.Of(x), e, want)
	}
}

func TestOf(t *testing.T) {
	is(t, fresh(t, 0, 9), []byte{0, 9, 0, 0})
	is(t, fresh(t, 1, 0), []byte{2, 0, 0, 0})
	is(t, fresh(t, 63, 127), []byte{126, 127, 0, 0})
	is(t, fresh(t, 64, 128), []byte{0x80, 1, 0x80, 1, 0, 0})
	is(t, fresh(t, last, 9), []byte{0x80, 0x80, 0x80, 0x80, 0x80, 0x40, 9, 0, 0})
	is(t, given(t, 5, 9, 300), []byte{10, 9, 0xac, 2, 0})
	is(t, given(t, 5, 9, math.MaxUint64), []byte{10, 9, 255, 255, 255, 255, 255, 255, 255, 255, 255, 1, 0})
	is(t, given(t, 70, 9, 300, full()...), fullBytes())
}

// TestNil: a nil scheduler has no image.
func TestNil(t *testing.T) {
	if b := image.Of(nil); len(b) != 0 {
		t.Error(b)
	}
	if m := image.Mark(nil); m != 0 {
		t.Error(m)
	}
}

// TestZero: of one that isn't of New nothing is promised, but that each call answers.
func TestZero(t *testing.T) {
	image.Of(&sched.Sched{})
	image.Mark(&sched.Sched{})
}

// TestRising: jobs rise by names, whichever way they came in.
func TestRising(t *testing.T) {
	names := []string{"b", "a-", "a", "a.1", "a1", "ab", "z", "a.10", "a.2"}
	want := []string{"a", "a-", "a.1", "a.10", "a.2", "a1", "ab", "b", "z"}
	rising := func(s *sched.Sched) {
		t.Helper()
		var jobs []api.Job
		for _, name := range want {
			j, ok := s.Job(name)
			if !ok {
				t.Fatal(name)
			}
			jobs = append(jobs, j)
		}
		is(t, s, imageBytes(s.Now(), uint64(s.Each()), s.Order(), jobs...))
	}
	s := fresh(t, 3, 20)
	var jobs []api.Job
	for i, name := range names {
		s.Do(api.Command{Kind: api.Submit, Spec: job(name)})
		jobs = append(jobs, api.Job{Spec: job(name), State: i % api.States})
	}
	rising(s)
	for range names {
		jobs = append(jobs[1:], jobs[0])
		rising(given(t, 3, 20, 5, jobs...))
	}
}

// ended is a scheduler with jobs whose numbers are at their ends, or at what is about these in bytes.
func ended(t *testing.T) *sched.Sched {
	t.Helper()
	var jobs []api.Job
	for i, n := range []int64{0, 1, 63, 64, 127, 128, 1 << 20, 1<<32 - 1, 1 << 32, last} {
		for state := range api.States {
			s := job("j" + strconv.Itoa(i) + "." + strconv.Itoa(state))
			s.Base, s.Cap, s.Delay, s.Lease = min(n, api.MaxSpan), min(n, api.MaxSpan), min(n, api.MaxSpan), min(n+1, api.MaxSpan)
			jobs = append(jobs, api.Job{Spec: s, State: state, Due: n, Failed: int(n), Created: n, Runs: int(n), Missed: int(n), Result: -n, Token: uint64(n), Order: uint64(n), Worker: strings.Repeat("\xff", int(min(n, 255)))})
		}
	}
	for i, n := range []int64{math.MaxInt64, math.MaxInt64 - 1} {
		jobs = append(jobs, api.Job{Spec: job("k" + strconv.Itoa(i)), Failed: int(n), Created: n, Runs: int(n), Missed: int(n), Result: n, Token: uint64(n), Order: uint64(n)})
		jobs = append(jobs, api.Job{Spec: job("l" + strconv.Itoa(i)), Result: -n - 1, Token: math.MaxUint64 - uint64(i), Order: math.MaxUint64 - uint64(i)})
	}
	return given(t, 64, 128, math.MaxUint64, jobs...)
}

func TestEnds(t *testing.T) {
	s := ended(t)
	is(t, s, imageOf(s))
	again(t, s)
}

// TestMark: the sum of the image, that tells whatever changes.
func TestMark(t *testing.T) {
	seen := map[uint32]int{}
	s := fresh(t, 0, 9)
	for i, c := range []api.Command{
		{},
		{Kind: api.Submit, Spec: job("a")}, {Kind: api.Submit, Spec: job("b", "a")}, {Kind: api.Lease, Worker: "w"},
		{Kind: api.Tick, Value: 1}, {Kind: api.Renew, Name: "a", Token: 1}, {Kind: api.Complete, Name: "a", Token: 1, Value: 5},
		{Kind: api.Lease, Worker: "w"}, {Kind: api.Fail, Name: "b", Token: 1}, {Kind: api.Cancel, Name: "b"}, {Kind: api.Forget, Name: "b"},
	} {
		if a := s.Do(c); a.Error != api.OK {
			t.Fatal(i, a)
		}
		m := image.Mark(s)
		if m != crc32.ChecksumIEEE(imageOf(s)) {
			t.Error(i, m)
		}
		if at, ok := seen[m]; ok {
			t.Error("the same mark behind", at, "and", i)
		}
		seen[m] = i
	}
}

// TestOfMemory: an image is new memory, and the scheduler isn't changed.
func TestOfMemory(t *testing.T) {
	s := given(t, 70, 9, 300, full()...)
	ahead := s.Copy()
	b, c := image.Of(s), image.Of(s)
	clear(b)
	_ = append(b[:2], 7, 7, 7)
	if !bytes.Equal(c, fullBytes()) || !bytes.Equal(image.Of(s), fullBytes()) {
		t.Error("two images share:", c)
	}
	s.Do(api.Command{Kind: api.Forget, Name: "d"})
	s.Do(api.Command{Kind: api.Tick, Value: 100})
	if !bytes.Equal(c, fullBytes()) {
		t.Error("an image is the scheduler's own:", c)
	}
	image.Mark(ahead)
	if l := slices.Collect(ahead.Jobs()); !slices.EqualFunc(l, full(), alike) {
		t.Errorf("%+v", l)
	}
}
