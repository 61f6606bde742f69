package session_test

import (
	"bytes"
	"math"
	"math/rand"
	"slices"
	"strings"
	"testing"
	"time"

	"compline/api"
	"compline/session"
)

// P20.1

// ends are numbers at their ends, or at what is about these in bytes.
func ends() []uint64 {
	return []uint64{1, 2, 127, 128, 129, 255, 256, 1<<14 - 1, 1 << 14, 1<<31 - 1, 1 << 31, 1<<32 - 1, 1 << 32, 1<<32 + 1, 1<<63 - 1, 1 << 63, math.MaxUint64 - 1, math.MaxUint64}
}

func TestNew(t *testing.T) {
	s := session.New()
	holds(t, "new", s, nil)
	if s.Len() != 0 || s.Last(1) != 0 || !bytes.Equal(s.Bytes(), []byte{0}) {
		t.Error(s.Len(), s.Last(1), s.Bytes())
	}
	again(t, s, nil)
	holds(t, "copy", s.Copy(), nil)
}

func TestExample(t *testing.T) {
	x := api.Answer{Error: api.ErrLate, Name: "a", Token: 3, Value: -4}
	s := session.New()
	if e := s.Keep(1, 5, x); e != api.OK {
		t.Fatal(e)
	}
	for _, c := range []struct {
		client, number uint64
		want           api.Answer
		ok             bool
	}{
		{1, 5, x, true},
		{1, 4, api.Answer{Error: api.ErrOld}, true},
		{1, 1, api.Answer{Error: api.ErrOld}, true},
		{1, 0, api.Answer{Error: api.ErrOld}, true},
		{1, 6, api.Answer{}, false},
		{1, math.MaxUint64, api.Answer{}, false},
		{2, 5, api.Answer{}, false},
		{2, 4, api.Answer{}, false},
		{2, 0, api.Answer{}, false},
		{0, 5, api.Answer{}, false},
		{0, 0, api.Answer{}, false},
	} {
		if a, ok := s.Look(c.client, c.number); ok != c.ok || a != c.want {
			t.Errorf("Look(%d, %d): %+v, %t", c.client, c.number, a, ok)
		}
	}
	if s.Last(1) != 5 || s.Last(2) != 0 || s.Last(0) != 0 || s.Len() != 1 {
		t.Error(s.Last(1), s.Last(2), s.Last(0), s.Len())
	}
}

// TestLast: just the last request is answered; what it was is gone with the next one.
func TestLast(t *testing.T) {
	s, m := session.New(), model{}
	for i, n := range ends() {
		keep(t, s, &m, 7, n, api.Answer{Value: int64(i), Name: "n"})
		holds(t, "kept", s, m)
		if s.Last(7) != n || s.Len() != 1 {
			t.Fatal(n, s.Last(7), s.Len())
		}
		for k, old := range ends() {
			a, ok := s.Look(7, old)
			switch {
			case k < i && (!ok || a != (api.Answer{Error: api.ErrOld})), k == i && (!ok || a.Value != int64(i) || a.Name != "n"), k > i && (ok || a != api.Answer{}):
				t.Fatal(n, old, a, ok)
			}
			if k <= i {
				refused(t, "an old number", s, m, 7, old, api.Answer{Value: 99}, api.ErrOld)
			}
		}
	}
}

// TestZeroNumber: a new client has no last request, of the number 0 neither.
func TestZeroNumber(t *testing.T) {
	for n := range uint64(17) {
		s, m := filled(t, upTo(n)...)
		want, full := api.Answer{}, n == 16
		if full {
			want.Error = api.ErrFull
		}
		for _, number := range append(ends(), 0) {
			if a, ok := s.Look(99, number); ok != full || a != want {
				t.Errorf("%d clients: Look(99, %d): %+v, %t", n, number, a, ok)
			}
			if a, ok := s.Look(0, number); ok || a != (api.Answer{}) {
				t.Errorf("%d clients: Look(0, %d): %+v, %t", n, number, a, ok)
			}
			refused(t, "nobody", s, m, 0, number, api.Answer{Value: 9}, api.ErrArg)
		}
		refused(t, "no number", s, m, 99, 0, api.Answer{Value: 9}, api.ErrArg)
		for _, client := range m.clients() {
			if a, ok := s.Look(client, 0); !ok || a != (api.Answer{Error: api.ErrOld}) {
				t.Errorf("Look(%d, 0): %+v, %t", client, a, ok)
			}
			refused(t, "no number", s, m, client, 0, api.Answer{Value: 9}, api.ErrArg)
		}
	}
}

// TestFull: 16 clients may be, whichever; those go on, and there is never room for another one.
func TestFull(t *testing.T) {
	for _, clients := range [][]uint64{upTo(16), ends()[2:], {9, 3, math.MaxUint64, 5, 1, 4, 1 << 63, 8, 2, 7, 6, 10, 1 << 32, 300, 128, 127}} {
		s, m := filled(t, clients...)
		for range 3 {
			holds(t, "full", s, m)
			if s.Len() != 16 {
				t.Fatal(s.Len())
			}
			for _, other := range []uint64{11, 17, 99, 1<<32 + 9, math.MaxUint64 - 7} {
				if slices.Contains(clients, other) {
					continue
				}
				if a, ok := s.Look(other, 1); !ok || a != (api.Answer{Error: api.ErrFull}) {
					t.Error(other, a, ok)
				}
				for _, number := range ends() {
					refused(t, "the 17th", s, m, other, number, api.Answer{Value: 9}, api.ErrFull)
				}
			}
			for i, client := range clients {
				next := s.Last(client) + 1 + uint64(i)
				if a, ok := s.Look(client, next); ok {
					t.Error(client, a)
				}
				keep(t, s, &m, client, next, api.Answer{Token: next, Name: "next"})
			}
		}
	}
	// One less has room for one.
	s, m := filled(t, upTo(15)...)
	if a, ok := s.Look(99, 1); ok {
		t.Error(a)
	}
	keep(t, s, &m, 99, 1, api.Answer{})
	refused(t, "the 17th", s, m, 16, 1, api.Answer{}, api.ErrFull)
}

// TestErrors: of several errors the first one that is named, and nothing has changed.
func TestErrors(t *testing.T) {
	long := api.Answer{Name: strings.Repeat("n", 256)}
	some, m := filled(t, upTo(3)...)
	refused(t, "nobody, without a number, too long", some, m, 0, 0, long, api.ErrArg)
	refused(t, "nobody, too long", some, m, 0, 9, long, api.ErrArg)
	refused(t, "without a number, old, too long", some, m, 1, 0, long, api.ErrArg)
	refused(t, "old, too long", some, m, 1, 5, long, api.ErrOld)
	refused(t, "too long, of one that is there", some, m, 1, 6, long, api.ErrLong)
	refused(t, "too long, of a new one", some, m, 4, 1, long, api.ErrLong)
	full, m := filled(t, upTo(16)...)
	refused(t, "nobody, full", full, m, 0, 1, long, api.ErrArg)
	refused(t, "without a number, full", full, m, 17, 0, long, api.ErrArg)
	refused(t, "old, too long", full, m, 16, 20, long, api.ErrOld)
	refused(t, "full, too long", full, m, 17, 1, long, api.ErrFull)
	refused(t, "too long, of one that is there", full, m, 16, 21, long, api.ErrLong)
	// Who was refused isn't there.
	s := session.New()
	refused(t, "too long", s, nil, 1, 1, long, api.ErrLong)
	refused(t, "nobody", s, nil, 0, 1, api.Answer{}, api.ErrArg)
	refused(t, "no number", s, nil, 1, 0, api.Answer{}, api.ErrArg)
	keep(t, s, &model{}, 1, 1, api.Answer{})
}

// answers are such as are read when they are written, with each field at its ends.
func answers() []api.Answer {
	l := []api.Answer{{}, {Error: math.MaxInt32, Name: strings.Repeat("\xff", 255), Token: math.MaxUint64, Value: math.MinInt64}}
	for e := api.OK; e <= api.ErrOld+1; e++ {
		l = append(l, api.Answer{Error: e})
	}
	for _, n := range ends() {
		l = append(l, api.Answer{Token: n}, api.Answer{Value: int64(n)}, api.Answer{Value: -int64(n)}, api.Answer{Error: api.Errno(n & math.MaxInt32)})
	}
	for _, name := range []string{"a", "a.1", "", "\x00", "\xff\xfe", "日本", "a b"} {
		l = append(l, api.Answer{Name: name}, api.Answer{Name: name, Error: 8, Token: 7, Value: -6})
	}
	return l
}

// TestAnswers: whatever is kept is told whole.
func TestAnswers(t *testing.T) {
	for _, x := range answers() {
		s, m := filled(t, 3, 1)
		keep(t, s, &m, 2, 5, x)
		if a, ok := s.Look(2, 5); !ok || a != x {
			t.Errorf("%+v: %+v, %t", x, a, ok)
		}
		holds(t, "an answer", s, m)
		again(t, s, m)
		holds(t, "copy", s.Copy(), m)
	}
	// An error that can't be read again is kept and written all the same.
	for _, e := range []api.Errno{-1, -2, math.MinInt64, math.MinInt32, math.MaxInt32 + 1, 1 << 32, 1<<32 + 7, math.MaxInt64} {
		s, m := filled(t, 3)
		keep(t, s, &m, 2, 5, api.Answer{Error: e, Name: "a"})
		holds(t, "a great error", s, m)
		wrong(t, "a great error", s.Bytes(), api.ErrForm)
	}
}

// TestNames: of 255 bytes a name is kept, of more it isn't.
func TestNames(t *testing.T) {
	for n := range 600 {
		x := api.Answer{Error: math.MaxInt32, Name: strings.Repeat("ä", n)[:n], Token: math.MaxUint64, Value: math.MinInt64}
		s, m := filled(t, 3)
		if n > 255 {
			refused(t, "a long name", s, m, 3, 6, x, api.ErrLong)
			refused(t, "a long name", s, m, 4, 1, x, api.ErrLong)
			continue
		}
		keep(t, s, &m, 3, 6, x)
		keep(t, s, &m, 4, 1, x)
		holds(t, "a name", s, m)
		again(t, s, m)
	}
	s := session.New()
	refused(t, "a great name", s, nil, 1, 1, api.Answer{Name: strings.Repeat("n", 1<<24)}, api.ErrLong)
}

// TestSteps does all short rows of some steps.
func TestSteps(t *testing.T) {
	var do func(s *session.Table, m model, left int)
	do = func(s *session.Table, m model, left int) {
		holds(t, "steps", s, m)
		if left == 0 {
			return
		}
		for client := range uint64(3) {
			for number := range uint64(4) {
				x, n := s.Copy(), slices.Clone(m)
				keep(t, x, &n, client, number, api.Answer{Value: int64(left), Token: number})
				do(x, n, left-1)
			}
		}
		holds(t, "behind steps of copies", s, m)
	}
	do(session.New(), nil, 3)
}

// TestChance does long rows of steps by chance.
func TestChance(t *testing.T) {
	count := map[api.Errno]int{}
	for seed := range 100 {
		r := rand.New(rand.NewSource(int64(seed)))
		s, m := session.New(), model{}
		clients := 1 + r.Intn(40)
		for range 300 {
			client, number := uint64(r.Intn(clients)), uint64(r.Intn(1<<r.Intn(12)))
			if r.Intn(3) == 0 {
				number = s.Last(client) + uint64(r.Intn(3))
			}
			if r.Intn(8) == 0 {
				client *= 1 << 40
			}
			a := api.Answer{Error: api.Errno(r.Intn(22)), Name: strings.Repeat("n", r.Intn(270)), Token: r.Uint64() >> r.Intn(64), Value: r.Int63() - r.Int63()}
			want := m.keep(client, number, a)
			if e := s.Keep(client, number, a); e != want {
				t.Fatalf("seed %d: Keep(%d, %d, %+v): %d, not %d", seed, client, number, a, e, want)
			}
			count[want]++
			holds(t, "chance", s, m)
			switch r.Intn(30) {
			case 0:
				s = again(t, s, m)
			case 1:
				s = s.Copy()
			}
		}
	}
	for _, e := range []api.Errno{api.OK, api.ErrArg, api.ErrOld, api.ErrFull, api.ErrLong} {
		if count[e] < 300 {
			t.Error("too few of", int(e), count[e])
		}
	}
}

// P20.2: nil, Copy

func TestNil(t *testing.T) {
	var s *session.Table
	for _, number := range append(ends(), 0) {
		for _, client := range append(ends(), 0) {
			if a, ok := s.Look(client, number); ok || a != (api.Answer{}) {
				t.Error(client, number, a, ok)
			}
			if e := s.Keep(client, number, api.Answer{Name: strings.Repeat("n", 300)}); e != api.ErrArg {
				t.Error(client, number, e)
			}
			if n := s.Last(client); n != 0 {
				t.Error(client, n)
			}
		}
	}
	if n, b, c := s.Len(), s.Bytes(), s.Copy(); n != 0 || len(b) != 0 || c != nil {
		t.Error(n, b, c)
	}
}

// TestZero: of one that isn't of New nothing is promised, but that each call answers.
func TestZero(t *testing.T) {
	s := &session.Table{}
	s.Look(1, 1)
	s.Last(1)
	s.Len()
	s.Bytes()
	s.Copy()
	s.Keep(1, 1, api.Answer{})
	s.Bytes()
}

// TestCopy: what is done to a copy is nothing to the table, and the other way round.
func TestCopy(t *testing.T) {
	for n := range uint64(17) {
		s, m := filled(t, upTo(n)...)
		x, y := s.Copy(), again(t, s, m)
		k, j, i := slices.Clone(m), slices.Clone(m), slices.Clone(m)
		for client := range uint64(20) {
			keep(t, s, &m, client, 100, api.Answer{Value: 1})
			holds(t, "copy", x, k)
			holds(t, "read", y, j)
		}
		for client := range uint64(20) {
			keep(t, x, &k, 19-client, 200, api.Answer{Value: 2})
			holds(t, "table", s, m)
			holds(t, "read", y, j)
		}
		for client := range uint64(20) {
			keep(t, y, &j, client, 300, api.Answer{Value: 3})
			holds(t, "table", s, m)
			holds(t, "copy", x, k)
		}
		z := x.Copy().Copy()
		holds(t, "copy of a copy", z, k)
		if n > 0 && bytes.Equal(s.Bytes(), i.bytes()) {
			t.Error("the table didn't go on")
		}
	}
}

// TestFast: a great many calls take a short while.
func TestFast(t *testing.T) {
	begin := time.Now()
	s, _ := filled(t, upTo(16)...)
	for n := range uint64(1000000) {
		s.Look(1+n%32, n)
		s.Keep(1+n%32, n, api.Answer{Value: int64(n)})
	}
	if d := time.Since(begin); d > 20*time.Second {
		t.Error("it took", d)
	}
}
