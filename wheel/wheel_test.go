package wheel_test

import (
	"maps"
	"math"
	"math/rand"
	"slices"
	"strconv"
	"testing"
	"time"

	"compline/api"
	"compline/wheel"
)

// model is a wheel by the words of chapter 10: timers, and a tick.
type model struct {
	now    int64
	most   int
	timers map[string]int64
}

// ahead is whether one timer is due ahead of another one.
func ahead(a, b wheel.Timer) bool {
	return a.At < b.At || a.At == b.At && a.Name < b.Name
}

// order holds two timers against each other.
func order(a, b wheel.Timer) int {
	switch {
	case ahead(a, b):
		return -1
	case ahead(b, a):
		return 1
	}
	return 0
}

// upTo is the model's timers with deadlines that aren't above a tick, in order.
func (m *model) upTo(to int64) []wheel.Timer {
	var l []wheel.Timer
	for name, at := range m.timers {
		if at <= to {
			l = append(l, wheel.Timer{Name: name, At: at})
		}
	}
	slices.SortFunc(l, order)
	return l
}

func (m *model) add(name string, at int64) api.Errno {
	_, same := m.timers[name]
	switch {
	case name == "" || at < 0 || at > api.MaxTick:
		return api.ErrArg
	case same:
		return api.ErrSame
	case len(m.timers) == m.most:
		return api.ErrFull
	}
	m.timers[name] = at
	return api.OK
}

func (m *model) cut(name string) bool {
	_, ok := m.timers[name]
	delete(m.timers, name)
	return ok
}

func (m *model) turn(to int64) ([]wheel.Timer, api.Errno) {
	if to < m.now || to > api.MaxTick {
		return nil, api.ErrRange
	}
	l := m.upTo(to)
	for _, x := range l {
		delete(m.timers, x.Name)
	}
	m.now = to
	return l, api.OK
}

func (m *model) copy() *model {
	return &model{m.now, m.most, maps.Clone(m.timers)}
}

// fresh is a wheel, and a model of it.
func fresh(t *testing.T, now int64, most int) (*wheel.Wheel, *model) {
	t.Helper()
	w, e := wheel.New(now, most)
	if w == nil || e != api.OK {
		t.Fatalf("New(%d, %d): %v, %d", now, most, w, e)
	}
	return w, &model{now, most, map[string]int64{}}
}

// holds holds all that can be asked of a wheel, without turning it, against its model, names that may not be there among it.
func holds(t *testing.T, what string, w *wheel.Wheel, m *model, names ...string) {
	t.Helper()
	want := m.upTo(api.MaxTick)
	if w.Now() != m.now || w.Len() != len(want) {
		t.Fatalf("%s: Now %d, Len %d, not %d, %d", what, w.Now(), w.Len(), m.now, len(want))
	}
	if l := slices.Collect(w.All()); !slices.Equal(l, want) {
		t.Fatalf("%s: All: %v, not %v", what, l, want)
	}
	at, ok := w.Next()
	if len(want) == 0 && (at != 0 || ok) || len(want) > 0 && (at != want[0].At || !ok) {
		t.Fatalf("%s: Next: %d, %v, of %v", what, at, ok, want)
	}
	for _, name := range slices.Concat(slices.Collect(maps.Keys(m.timers)), names, []string{"", "no timer"}) {
		wantAt, wantOK := m.timers[name]
		if at, ok := w.At(name); at != wantAt || ok != wantOK {
			t.Fatalf("%s: At(%q): %d, %v, not %d, %v", what, name, at, ok, wantAt, wantOK)
		}
	}
}

// add, cut and turn do the same to a wheel and to its model.
func add(t *testing.T, w *wheel.Wheel, m *model, name string, at int64) {
	t.Helper()
	if e, want := w.Add(name, at), m.add(name, at); e != want {
		t.Fatalf("at %d: Add(%q, %d): %d, not %d", m.now, name, at, e, want)
	}
}

func cut(t *testing.T, w *wheel.Wheel, m *model, name string) {
	t.Helper()
	if ok, want := w.Cut(name), m.cut(name); ok != want {
		t.Fatalf("at %d: Cut(%q): %v, not %v", m.now, name, ok, want)
	}
}

func turn(t *testing.T, w *wheel.Wheel, m *model, to int64) {
	t.Helper()
	from := m.now
	l, e := w.Turn(to)
	if want, wantE := m.turn(to); e != wantE || !slices.Equal(l, want) {
		t.Fatalf("at %d: Turn(%d): %v, %d, not %v, %d", from, to, l, e, want, wantE)
	}
}

// ends holds a wheel against its model, and turns it to the last tick: all that are left are told.
func ends(t *testing.T, what string, w *wheel.Wheel, m *model) {
	t.Helper()
	holds(t, what, w, m)
	turn(t, w, m, api.MaxTick)
	holds(t, what+", turned to the end", w, m)
	if w.Len() != 0 {
		t.Fatalf("%s: %d are left", what, w.Len())
	}
}

func TestExample(t *testing.T) {
	w, m := fresh(t, 0, 3)
	for _, x := range []wheel.Timer{{Name: "b", At: 5}, {Name: "a", At: 5}, {Name: "c", At: 900000}} {
		add(t, w, m, x.Name, x.At)
	}
	l, e := w.Turn(5)
	if e != api.OK || !slices.Equal(l, []wheel.Timer{{Name: "a", At: 5}, {Name: "b", At: 5}}) {
		t.Error(l, e)
	}
	l, e = w.Turn(1000000)
	if e != api.OK || !slices.Equal(l, []wheel.Timer{{Name: "c", At: 900000}}) {
		t.Error(l, e)
	}
}

func TestNew(t *testing.T) {
	for _, x := range []struct {
		now  int64
		most int
		e    api.Errno
	}{
		{0, 1, api.OK}, {0, 65536, api.OK}, {api.MaxTick, 1, api.OK}, {api.MaxTick, 65536, api.OK}, {77, 128, api.OK},
		{-1, 1, api.ErrArg}, {api.MaxTick + 1, 1, api.ErrArg}, {math.MinInt64, 1, api.ErrArg}, {math.MaxInt64, 1, api.ErrArg},
		{0, 0, api.ErrArg}, {0, -1, api.ErrArg}, {0, 65537, api.ErrArg}, {0, math.MaxInt, api.ErrArg}, {0, math.MinInt, api.ErrArg},
		{-1, 0, api.ErrArg}, {api.MaxTick + 1, 65537, api.ErrArg},
	} {
		w, e := wheel.New(x.now, x.most)
		if e != x.e || (w != nil) != (e == api.OK) {
			t.Errorf("New(%d, %d): %v, %d, not %d", x.now, x.most, w, e, x.e)
		}
		if w != nil {
			holds(t, "new", w, &model{x.now, x.most, nil})
		}
	}
}

func TestAddErrors(t *testing.T) {
	w, m := fresh(t, 100, 2)
	add(t, w, m, "a", 200)
	refused := func(name string, at int64, want api.Errno) {
		t.Helper()
		if e := w.Add(name, at); e != want {
			t.Errorf("%d timers: Add(%q, %d): %d, not %d", w.Len(), name, at, e, want)
		}
		holds(t, "refused", w, m, name)
	}
	wrong := []int64{-1, api.MaxTick + 1, math.MinInt64, math.MaxInt64}
	for range 2 {
		// The second time the wheel is full.
		refused("", 200, api.ErrArg)
		for _, at := range wrong {
			refused("", at, api.ErrArg)
			refused("c", at, api.ErrArg)
			refused("a", at, api.ErrArg)
		}
		refused("a", 200, api.ErrSame)
		refused("a", 201, api.ErrSame)
		refused("a", 0, api.ErrSame)
		m.add("b", 50)
		w.Add("b", 50)
	}
	refused("b", 300, api.ErrSame)
	refused("c", 200, api.ErrFull)
	refused("c", 0, api.ErrFull)
	refused("c", api.MaxTick, api.ErrFull)
	ends(t, "full", w, m)
}

func TestFull(t *testing.T) {
	for _, most := range []int{1, 2, 3, 64, 65, 65535, 65536} {
		w, m := fresh(t, 0, most)
		for i := range most {
			add(t, w, m, strconv.Itoa(i), int64(i)*7)
		}
		add(t, w, m, "more", 1)
		if w.Len() != most {
			t.Fatal(w.Len())
		}
		// Who was cut or told makes room, and so does none else.
		cut(t, w, m, "more")
		cut(t, w, m, strconv.Itoa(most-1))
		add(t, w, m, "more", 1)
		add(t, w, m, "most", 1)
		turn(t, w, m, 1)
		add(t, w, m, "most", 1)
		if most < 100 {
			ends(t, "full", w, m)
		}
	}
}

func TestNames(t *testing.T) {
	long := string(slices.Repeat([]byte{'n'}, 100000))
	names := []string{"a", "A", "b", "ab", "aa", "a\x00", "\x00", " ", "\xff", "\xff\xfe", "ä", "z", "10", "9", long, long + "n", "日"}
	for _, at := range []int64{0, 4, 5, 6, 100, 5000, api.MaxTick} {
		w, m := fresh(t, 5, len(names))
		for _, name := range names {
			add(t, w, m, name, at)
		}
		ends(t, "names", w, m)
	}
	// The deadline is asked ahead of the name.
	w, m := fresh(t, 0, len(names))
	for i, name := range slices.Sorted(slices.Values(names)) {
		add(t, w, m, name, int64(1000-i*50))
	}
	ends(t, "names against deadlines", w, m)
}

func TestCut(t *testing.T) {
	w, m := fresh(t, 10, 8)
	for i, at := range []int64{0, 9, 10, 11, 74, 4106, 1 << 30, api.MaxTick} {
		add(t, w, m, string(rune('a'+i)), at)
	}
	for i := range 8 {
		w, m := w.Copy(), m.copy()
		name := string(rune('a' + i))
		cut(t, w, m, name)
		holds(t, "cut", w, m, name)
		cut(t, w, m, name)
		cut(t, w, m, "")
		cut(t, w, m, "other")
		holds(t, "cut again", w, m, name)
		// A name that was cut is free, for a deadline of another level too.
		add(t, w, m, name, 500)
		holds(t, "added again", w, m)
		ends(t, "cut", w, m)
	}
	cut(t, w, m, "e")
	cut(t, w, m, "h")
	turn(t, w, m, 70)
	// Who has moved down is found there.
	cut(t, w, m, "f")
	cut(t, w, m, "g")
	holds(t, "cut behind a turn", w, m)
	ends(t, "cut", w, m)
}

func TestTurnErrors(t *testing.T) {
	w, m := fresh(t, 1000, 4)
	add(t, w, m, "due", 999)
	add(t, w, m, "now", 1000)
	add(t, w, m, "then", 1001)
	for _, to := range []int64{999, 0, -1, math.MinInt64, api.MaxTick + 1, math.MaxInt64} {
		if l, e := w.Turn(to); len(l) != 0 || e != api.ErrRange {
			t.Errorf("Turn(%d): %v, %d", to, l, e)
		}
		holds(t, "refused", w, m)
	}
	// A turn to where it is already tells who is due.
	turn(t, w, m, 1000)
	holds(t, "turned to now", w, m)
	turn(t, w, m, 1000)
	turn(t, w, m, api.MaxTick)
	turn(t, w, m, api.MaxTick)
	turn(t, w, m, api.MaxTick-1)
	add(t, w, m, "last", api.MaxTick)
	add(t, w, m, "old", 0)
	holds(t, "at the end", w, m)
	turn(t, w, m, api.MaxTick)
	holds(t, "at the end, turned", w, m)
}

// edges is ticks at which digits of some base change, and others beside them.
func edges() []int64 {
	m := map[int64]bool{0: true, 1: true, 2: true, api.MaxTick: true, api.MaxTick - 1: true}
	for _, bit := range []int{6, 8, 12, 16, 18, 24, 30, 36} {
		for _, n := range []int64{-1, 0, 1} {
			m[1<<bit+n] = true
		}
	}
	for _, n := range []int64{127, 128, 129, 4095 + 64, 5 << 18, 63 << 30, 15<<36 - 1, 15 << 36} {
		m[n] = true
	}
	return slices.Sorted(maps.Keys(m))
}

// TestEdges turns from each edge to each other one, by way of a third one, with timers at all of them.
func TestEdges(t *testing.T) {
	l := edges()
	for _, now := range l {
		for _, by := range l {
			if by < now {
				continue
			}
			w, m := fresh(t, now, len(l))
			for i, at := range l {
				add(t, w, m, strconv.Itoa(i), at)
			}
			turn(t, w, m, by)
			holds(t, "by an edge", w, m)
			for _, to := range l {
				if to > by {
					w, m := w.Copy(), m.copy()
					turn(t, w, m, to)
					holds(t, "to an edge", w, m)
				}
			}
		}
	}
}

// TestEachTick holds each timer's turn against its deadline, tick by tick.
func TestEachTick(t *testing.T) {
	for _, now := range []int64{0, 1, 63, 4000, 4096*64 - 300, 1<<36 - 500, api.MaxTick - 9000} {
		w, m := fresh(t, now, 65536)
		for i := range int64(9000) {
			add(t, w, m, strconv.FormatInt(i, 10), now+i*7919%9000)
		}
		for i := range int64(9000) {
			l, e := w.Turn(now + i)
			if e != api.OK || len(l) != 1 || l[0].At != now+i || w.Len() != 8999-int(i) {
				t.Fatalf("from %d on, tick %d: %v, %d", now, i, l, e)
			}
			if at, ok := w.Next(); ok != (i < 8999) || ok && at != now+i+1 {
				t.Fatalf("from %d on, tick %d: Next: %d, %v", now, i, at, ok)
			}
		}
	}
}

// TestPieces: what a turn tells is what turns to ticks on the way tell, one behind the other.
func TestPieces(t *testing.T) {
	r := rand.New(rand.NewSource(10))
	for range 300 {
		now := tick(r)
		w, _ := fresh(t, now, 50)
		for i := range 50 {
			w.Add(strconv.Itoa(i), tick(r))
		}
		ways := []int64{api.MaxTick}
		for range r.Intn(20) {
			ways = append(ways, max(now, tick(r)))
		}
		slices.Sort(ways)
		c := w.Copy()
		whole, _ := w.Turn(api.MaxTick)
		var l []wheel.Timer
		for _, to := range ways {
			more, e := c.Turn(to)
			if e != api.OK {
				t.Fatal(to, e)
			}
			l = append(l, more...)
		}
		// Who was due at first comes with the first piece, in order too.
		if len(whole) != 50 || !slices.Equal(l, whole) {
			t.Fatalf("from %d on: in pieces %v, at once %v", now, l, whole)
		}
	}
}

// step is something that is done to a wheel and to its model.
type step func(t *testing.T, w *wheel.Wheel, m *model)

// TestSteps does all short rows of some steps.
func TestSteps(t *testing.T) {
	var steps []step
	for _, name := range []string{"a", "b"} {
		for _, at := range []int64{61, 63, 64, 65, 4200} {
			steps = append(steps, func(t *testing.T, w *wheel.Wheel, m *model) { add(t, w, m, name, at) })
		}
		steps = append(steps, func(t *testing.T, w *wheel.Wheel, m *model) { cut(t, w, m, name) })
	}
	for _, to := range []int64{62, 63, 64, 66, 4099, 4300} {
		steps = append(steps, func(t *testing.T, w *wheel.Wheel, m *model) { turn(t, w, m, to) })
	}
	var do func(w *wheel.Wheel, m *model, left int)
	do = func(w *wheel.Wheel, m *model, left int) {
		for _, s := range steps {
			w, m := w.Copy(), m.copy()
			s(t, w, m)
			holds(t, "steps", w, m, "a", "b")
			if left > 1 {
				do(w, m, left-1)
			}
		}
	}
	depth := 4
	if testing.Short() {
		depth = 3
	}
	for _, most := range []int{1, 2} {
		w, m := fresh(t, 62, most)
		do(w, m, depth)
	}
}

// tick is one by chance, of any size.
func tick(r *rand.Rand) int64 {
	t := r.Int63n(1<<r.Intn(41) + 1)
	if r.Intn(4) == 0 {
		return api.MaxTick - t
	}
	return t
}

// TestChance does long rows of steps by chance.
func TestChance(t *testing.T) {
	for seed := range int64(60) {
		r := rand.New(rand.NewSource(seed))
		names := 1 + r.Intn(60)
		w, m := fresh(t, r.Int63n(1<<r.Intn(41)+1), 1+r.Intn(names))
		reach := 1 + r.Intn(32)
		for range 600 {
			name := strconv.Itoa(r.Intn(names))
			near := m.now + r.Int63n(1<<reach) - 1<<reach/8
			switch k := r.Intn(20); {
			case k < 9:
				add(t, w, m, name, near)
			case k < 10:
				add(t, w, m, name, tick(r))
			case k < 13:
				cut(t, w, m, name)
			case k < 18:
				turn(t, w, m, m.now+r.Int63n(1<<r.Intn(reach+1)))
			case k < 19:
				if at, ok := w.Next(); ok {
					turn(t, w, m, at)
				}
			default:
				w = w.Copy()
			}
			holds(t, "chance", w, m, name)
		}
		ends(t, "chance", w, m)
	}
}

func TestNil(t *testing.T) {
	var w *wheel.Wheel
	for _, to := range []int64{0, 5, -1, api.MaxTick, api.MaxTick + 1} {
		if l, e := w.Turn(to); len(l) != 0 || e != api.ErrArg {
			t.Errorf("Turn(%d): %v, %d", to, l, e)
		}
		if e := w.Add("a", to); e != api.ErrArg {
			t.Errorf("Add: %d", e)
		}
	}
	if w.Add("", 0) != api.ErrArg || w.Cut("a") || w.Cut("") || w.Now() != 0 || w.Len() != 0 || w.Copy() != nil {
		t.Error("a nil wheel has something")
	}
	if at, ok := w.At("a"); at != 0 || ok {
		t.Error("At:", at, ok)
	}
	if at, ok := w.Next(); at != 0 || ok {
		t.Error("Next:", at, ok)
	}
	for x := range w.All() {
		t.Error("All:", x)
	}
	w.All()(nil)
}

// TestZero: a wheel that isn't of New is one of no timers.
func TestZero(t *testing.T) {
	w, m := &wheel.Wheel{}, &model{}
	for range 2 {
		add(t, w, m, "", 0)
		add(t, w, m, "a", -1)
		add(t, w, m, "a", 5)
		cut(t, w, m, "a")
		holds(t, "zero", w, m)
		turn(t, w, m, m.now+7)
		w = w.Copy()
	}
}

func TestCopy(t *testing.T) {
	build := func() (*wheel.Wheel, *model) {
		w, m := fresh(t, 100, 6)
		for i, at := range []int64{5, 100, 101, 200, 5000} {
			add(t, w, m, string(rune('a'+i)), at)
		}
		return w, m
	}
	for _, s := range []step{
		func(t *testing.T, w *wheel.Wheel, m *model) { add(t, w, m, "f", 101) },
		func(t *testing.T, w *wheel.Wheel, m *model) { add(t, w, m, "f", 100) },
		func(t *testing.T, w *wheel.Wheel, m *model) { add(t, w, m, "f", api.MaxTick) },
		func(t *testing.T, w *wheel.Wheel, m *model) { cut(t, w, m, "a") },
		func(t *testing.T, w *wheel.Wheel, m *model) { cut(t, w, m, "c") },
		func(t *testing.T, w *wheel.Wheel, m *model) { cut(t, w, m, "e") },
		func(t *testing.T, w *wheel.Wheel, m *model) { turn(t, w, m, 100) },
		func(t *testing.T, w *wheel.Wheel, m *model) { turn(t, w, m, 4990) },
		func(t *testing.T, w *wheel.Wheel, m *model) { turn(t, w, m, api.MaxTick) },
	} {
		w, m := build()
		c, n := w.Copy(), m.copy()
		holds(t, "copy", c, n)
		s(t, w, m)
		holds(t, "changed", w, m)
		holds(t, "copy of one that was changed", c, n)
		ends(t, "changed", w, m)
		ends(t, "copy of one that was changed", c, n)

		w, m = build()
		c, n = w.Copy(), m.copy()
		s(t, c, n)
		holds(t, "copy that was changed", c, n)
		holds(t, "whose copy was changed", w, m)
		ends(t, "copy that was changed", c, n)
		// The copy has as many places as the other one had.
		add(t, w, m, "f", 300)
		add(t, w, m, "g", 300)
		ends(t, "whose copy was changed", w, m)
	}
}

func TestAllIterator(t *testing.T) {
	w, m := fresh(t, 10, 10)
	for i, at := range []int64{700, 3, 11, 10, 80, 11} {
		add(t, w, m, string(rune('f'-i)), at)
	}
	want := m.upTo(api.MaxTick)
	all := w.All()
	for range 2 {
		if l := slices.Collect(all); !slices.Equal(l, want) {
			t.Fatal(l)
		}
	}
	n := 0
	for x := range all {
		if n++; x != want[n-1] || n > 3 {
			t.Fatal(x, n)
		}
		if n == 3 {
			break
		}
	}
	all(nil)
	// Changed while it is gone through: it tells all that there were.
	var l []wheel.Timer
	for x := range all {
		cut(t, w, m, x.Name)
		add(t, w, m, x.Name, x.At+1000)
		l = append(l, x)
	}
	if !slices.Equal(l, want) {
		t.Fatal(l)
	}
	holds(t, "changed while told", w, m)
	ends(t, "changed while told", w, m)
}

// TestMemory: answers are new memory.
func TestMemory(t *testing.T) {
	w, m := fresh(t, 0, 10)
	for i := range 6 {
		add(t, w, m, string(rune('a'+i)), int64(i/3))
	}
	c := w.Copy()
	first, _ := w.Turn(0)
	kept := slices.Clone(first)
	full := first[:cap(first)]
	for i := range full {
		full[i] = wheel.Timer{Name: "x", At: 9}
	}
	m.turn(0)
	holds(t, "behind an answer that was changed", w, m)
	second, _ := w.Turn(1)
	if len(second) != 3 || second[0].Name != "d" {
		t.Error(second)
	}
	if l, _ := c.Turn(0); !slices.Equal(l, kept) {
		t.Error(l)
	}
	for x := range w.All() {
		t.Error(x)
	}
}

// TestOnce: each timer is told once, at the first turn to its deadline or beyond; one of its name behind that is another one.
func TestOnce(t *testing.T) {
	w, m := fresh(t, 0, 4)
	for round := range int64(500) {
		at := m.now + round%70
		add(t, w, m, "a", at)
		add(t, w, m, "a", at+1)
		turn(t, w, m, max(m.now, at-1))
		turn(t, w, m, max(m.now, at))
		turn(t, w, m, m.now)
		turn(t, w, m, m.now+1)
		holds(t, "told", w, m)
	}
}

// TestFast: many timers and many turns end in a short while.
func TestFast(t *testing.T) {
	begin := time.Now()
	r := rand.New(rand.NewSource(1))
	w, _ := fresh(t, 0, 65536)
	for i := range 65536 {
		w.Add(strconv.Itoa(i), tick(r))
	}
	told, last := 0, wheel.Timer{At: -1}
	for at, ok := w.Next(); ok; at, ok = w.Next() {
		l, e := w.Turn(at)
		if e != api.OK || len(l) == 0 {
			t.Fatal(at, l, e)
		}
		for _, x := range l {
			if !ahead(last, x) {
				t.Fatal(last, x)
			}
			last = x
		}
		told += len(l)
	}
	if told != 65536 || w.Len() != 0 {
		t.Error(told)
	}
	w, _ = fresh(t, 0, 65536)
	for i := range 65535 {
		w.Add(strconv.Itoa(i), 1<<39+int64(i))
	}
	for to := range int64(1 << 20) {
		if l, _ := w.Turn(to); len(l) != 0 {
			t.Fatal(to, l)
		}
	}
	if d := time.Since(begin); d > 20*time.Second {
		t.Error("it took", d)
	}
}
