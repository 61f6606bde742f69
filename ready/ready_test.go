package ready_test

import (
	"math"
	"math/rand"
	"slices"
	"strconv"
	"strings"
	"testing"
	"time"

	"compline/api"
	"compline/ready"
)

// item is one that is ready.
type item struct {
	name     string
	priority int
	order    uint64
}

// String tells no more of a long name than its beginning.
func (x item) String() string {
	return strconv.Quote(x.name[:min(len(x.name), 30)]) + " " + strconv.Itoa(x.priority) + " " + strconv.FormatUint(x.order, 10)
}

// before is whether one comes ahead of another one, by the words of chapter 15.
func before(a, b item) bool {
	switch {
	case a.priority != b.priority:
		return a.priority < b.priority
	case a.order != b.order:
		return a.order < b.order
	}
	return a.name < b.name
}

// model is a row by the words of chapter 15: who is there, in whatever order.
type model struct {
	items []item
}

func (m *model) find(name string) int {
	return slices.IndexFunc(m.items, func(x item) bool { return x.name == name })
}

func (m *model) put(x item) api.Errno {
	switch {
	case x.priority < 0 || x.priority > 3:
		return api.ErrRange
	case m.find(x.name) >= 0:
		return api.ErrSame
	}
	m.items = append(m.items, x)
	return api.OK
}

func (m *model) cut(name string) bool {
	i := m.find(name)
	if i < 0 {
		return false
	}
	m.items = slices.Delete(m.items, i, i+1)
	return true
}

func (m *model) next() (string, bool) {
	if len(m.items) == 0 {
		return "", false
	}
	x := m.items[0]
	for _, y := range m.items {
		if before(y, x) {
			x = y
		}
	}
	return x.name, true
}

func (m *model) take() (string, bool) {
	name, ok := m.next()
	if ok {
		m.cut(name)
	}
	return name, ok
}

func (m *model) length(priority int) int {
	n := 0
	for _, x := range m.items {
		if x.priority == priority {
			n++
		}
	}
	return n
}

func (m *model) all() []string {
	var l []string
	for m = m.copy(); ; {
		name, ok := m.take()
		if !ok {
			return l
		}
		l = append(l, name)
	}
}

func (m *model) copy() *model { return &model{slices.Clone(m.items)} }

// row is a row with these, and a model of it.
func row(t *testing.T, items ...item) (*ready.Row, *model) {
	t.Helper()
	r, m := ready.New(), &model{}
	if r == nil {
		t.Fatal("New: nil")
	}
	for _, x := range items {
		put(t, r, m, x)
	}
	return r, m
}

// taken is what comes out of a copy of a row, one behind the other.
func taken(r *ready.Row) []string {
	var l []string
	for r = r.Copy(); ; {
		name, ok := r.Take()
		if !ok {
			return l
		}
		l = append(l, name)
	}
}

// priorities are all that there are, and some that aren't.
func priorities() []int {
	return []int{0, 1, 2, 3, -1, 4, 5, -4, 7, 8, 256, 1 << 32, 1<<32 + 1, math.MinInt, math.MaxInt}
}

// holds holds all that can be asked of a row against its model, names that may not be there among it.
func holds(t *testing.T, what string, r *ready.Row, m *model, names ...string) {
	t.Helper()
	name, ok := r.Next()
	if want, wantOK := m.next(); name != want || ok != wantOK {
		t.Fatalf("%s: Next: %q, %v, not %q, %v, of %v", what, name, ok, want, wantOK, m.items)
	}
	if l, want := slices.Collect(r.All()), m.all(); !slices.Equal(l, want) {
		t.Fatalf("%s: All: %q, not %q, of %v", what, l, want, m.items)
	}
	for _, p := range priorities() {
		if n, want := r.Len(p), m.length(p); n != want {
			t.Fatalf("%s: Len(%d): %d, not %d, of %v", what, p, n, want, m.items)
		}
	}
	for _, x := range m.items {
		if !r.Has(x.name) {
			t.Fatalf("%s: Has(%q): false, of %v", what, x.name, m.items)
		}
	}
	for _, name := range slices.Concat(names, []string{"", "no name of the row"}) {
		if r.Has(name) != (m.find(name) >= 0) {
			t.Fatalf("%s: Has(%q): %v, of %v", what, name, r.Has(name), m.items)
		}
	}
}

// whole is holds, and all that are taken, one behind the other.
func whole(t *testing.T, what string, r *ready.Row, m *model, names ...string) {
	t.Helper()
	holds(t, what, r, m, names...)
	if l, want := taken(r), m.all(); !slices.Equal(l, want) {
		t.Fatalf("%s: Take: %q, not %q, of %v", what, l, want, m.items)
	}
	holds(t, what+", its copy taken", r, m, names...)
}

// put, cut and take do the same to a row and to its model.
func put(t *testing.T, r *ready.Row, m *model, x item) {
	t.Helper()
	was := m.copy()
	if e, want := r.Put(x.name, x.priority, x.order), m.put(x); e != want {
		t.Fatalf("Put(%v) to %v: %d, not %d", x, was.items, e, want)
	}
}

func cut(t *testing.T, r *ready.Row, m *model, name string) {
	t.Helper()
	was := m.copy()
	if ok, want := r.Cut(name), m.cut(name); ok != want {
		t.Fatalf("Cut(%q) of %v: %v", name, was.items, ok)
	}
}

func take(t *testing.T, r *ready.Row, m *model) {
	t.Helper()
	was := m.copy()
	name, ok := r.Take()
	if want, wantOK := m.take(); name != want || ok != wantOK {
		t.Fatalf("Take of %v: %q, %v, not %q, %v", was.items, name, ok, want, wantOK)
	}
}

func TestExample(t *testing.T) {
	r := ready.New()
	if e := r.Put("b", 1, 1); e != api.OK {
		t.Error(e)
	}
	if e := r.Put("a", 0, 2); e != api.OK {
		t.Error(e)
	}
	if l := slices.Collect(r.All()); !slices.Equal(l, []string{"a", "b"}) {
		t.Error(l)
	}
	for _, want := range []string{"a", "b"} {
		if name, ok := r.Next(); name != want || !ok {
			t.Errorf("Next: %q, %v, not %q", name, ok, want)
		}
		if name, ok := r.Take(); name != want || !ok {
			t.Errorf("Take: %q, %v, not %q", name, ok, want)
		}
	}
	whole(t, "taken", r, &model{}, "a", "b")
}

func TestNew(t *testing.T) {
	r, m := row(t)
	whole(t, "new", r, m, "a")
	if r.Cut("") || r.Cut("a") {
		t.Error("Cut: of nobody")
	}
	take(t, r, m)
	whole(t, "still", r, m, "a")
	s, _ := row(t)
	put(t, r, m, item{"a", 0, 0})
	whole(t, "another one", s, &model{}, "a")
}

// TestPriorityFirst: priorities come ahead of orders, orders ahead of names, whoever was put in first.
func TestPriorityFirst(t *testing.T) {
	for _, x := range []struct{ first, second item }{
		{item{"b", 0, 9}, item{"a", 1, 1}},
		{item{"b", 0, math.MaxUint64}, item{"a", 3, 0}},
		{item{"b", 2, 1}, item{"a", 3, 1}},
		{item{"b", 1, 1}, item{"a", 1, 2}},
		{item{"b", 3, 9}, item{"a", 3, 10}},
		{item{"b", 0, 0}, item{"a", 0, math.MaxUint64}},
		{item{"b", 0, math.MaxInt64}, item{"a", 0, 1 << 63}},
		{item{"b", 0, 1 << 32}, item{"a", 0, 1<<32 + 1}},
		{item{"b", 0, 1<<53 + 1}, item{"a", 0, 1<<53 + 2}},
		{item{"a", 2, 5}, item{"b", 2, 5}},
		{item{"", 2, 5}, item{"a", 2, 5}},
		{item{"a", 2, 5}, item{"aa", 2, 5}},
		{item{"job10", 2, 5}, item{"job9", 2, 5}},
		{item{"B", 2, 5}, item{"a", 2, 5}},
		{item{"z", 2, 5}, item{"é", 2, 5}},
		{item{"\x7f", 2, 5}, item{"\x80", 2, 5}},
	} {
		want := []string{x.first.name, x.second.name}
		for _, l := range [][]item{{x.first, x.second}, {x.second, x.first}} {
			r, m := row(t, l...)
			if got := slices.Collect(r.All()); !slices.Equal(got, want) {
				t.Errorf("%v: %q", l, got)
			}
			if name, ok := r.Next(); name != want[0] || !ok {
				t.Errorf("%v: Next: %q", l, name)
			}
			whole(t, "two", r, m)
		}
	}
}

// TestPutErrors: a priority that there isn't is ErrRange, also of a name that is there; what is refused changes nothing.
func TestPutErrors(t *testing.T) {
	r, m := row(t)
	refused := func(x item, want api.Errno) {
		t.Helper()
		if e := r.Put(x.name, x.priority, x.order); e != want {
			t.Errorf("Put(%v): %d, not %d", x, e, want)
		}
		whole(t, "refused", r, m, x.name)
	}
	wrong := func() {
		for _, p := range priorities()[4:] {
			refused(item{"new", p, 1}, api.ErrRange)
			refused(item{"", p, 0}, api.ErrRange)
			refused(item{"a", p, 7}, api.ErrRange)
		}
	}
	wrong()
	for i, name := range []string{"a", "d", "c", "b"} {
		put(t, r, m, item{name, i, 7})
		wrong()
		for p := range 4 {
			// Neither another priority nor another order makes it another one.
			for _, order := range []uint64{0, 6, 7, 8, math.MaxUint64} {
				refused(item{"a", p, order}, api.ErrSame)
				refused(item{name, p, order}, api.ErrSame)
			}
		}
	}
	// Who has gone leaves the name free, with whatever priority, cut or taken.
	for p := range 4 {
		cut(t, r, m, "a")
		put(t, r, m, item{"a", p, 1})
		refused(item{"a", p, 1}, api.ErrSame)
		r, m := row(t, item{"a", p, 1}, item{"b", 3, 2})
		take(t, r, m)
		put(t, r, m, item{"a", 3 - p, 3})
		whole(t, "put again", r, m, "a", "b")
	}
}

func TestCut(t *testing.T) {
	names := []string{"a", "b", "c", "d", "e", "f", "g", "h", "i", "j"}
	chance := rand.New(rand.NewSource(15))
	for n := range names {
		for i := range n + 1 {
			r, m := row(t)
			for _, k := range chance.Perm(n) {
				put(t, r, m, item{names[k], chance.Intn(4), uint64(chance.Intn(n))})
			}
			cut(t, r, m, names[i])
			whole(t, "cut", r, m, names...)
			cut(t, r, m, names[i])
			cut(t, r, m, "")
			whole(t, "cut again", r, m, names...)
			put(t, r, m, item{names[i], chance.Intn(4), uint64(chance.Intn(n + 1))})
			whole(t, "put again", r, m, names...)
		}
	}
}

// TestLen counts each priority for itself, and none of those that there aren't.
func TestLen(t *testing.T) {
	r, m := row(t)
	for p := range 4 {
		for i := range 2*p + 1 {
			put(t, r, m, item{strconv.Itoa(p) + strconv.Itoa(i), p, 5})
		}
	}
	for p, want := range []int{1, 3, 5, 7} {
		if r.Len(p) != want {
			t.Error(p, r.Len(p))
		}
	}
	for _, p := range priorities()[4:] {
		if r.Len(p) != 0 {
			t.Error(p, r.Len(p))
		}
	}
	for range 17 {
		take(t, r, m)
		holds(t, "taken", r, m)
	}
}

// TestNextStays: who asks changes nothing; Take takes the one that Next tells.
func TestNextStays(t *testing.T) {
	r, m := row(t, item{"d", 3, 1}, item{"c", 1, 4}, item{"b", 1, 3}, item{"a", 3, 0})
	for _, want := range []string{"b", "c", "a", "d"} {
		for range 3 {
			if name, ok := r.Next(); name != want || !ok {
				t.Errorf("Next: %q, %v, not %q", name, ok, want)
			}
		}
		take(t, r, m)
		whole(t, "taken", r, m, want)
	}
	for range 3 {
		take(t, r, m)
	}
	// One that is ahead of all that were there is the next one.
	for _, x := range []item{{"c", 3, 9}, {"b", 3, 9}, {"z", 3, 8}, {"y", 1, 9}, {"x", 1, 0}, {"w", 0, 1}, {"", 0, 1}, {"v", 0, 0}} {
		put(t, r, m, x)
		if name, ok := r.Next(); name != x.name || !ok {
			t.Errorf("Next: %q, %v, not %q", name, ok, x.name)
		}
	}
	whole(t, "in the end", r, m)
}

// orders calls with all orders of a row's items.
func orders(l []item, call func(l []item)) {
	var more func(at int)
	more = func(at int) {
		if at == len(l) {
			call(l)
			return
		}
		for i := at; i < len(l); i++ {
			l[at], l[i] = l[i], l[at]
			more(at + 1)
			l[at], l[i] = l[i], l[at]
		}
	}
	more(0)
}

// TestOrders: whoever was put in first, the row is the same.
func TestOrders(t *testing.T) {
	for _, l := range [][]item{
		{{"a", 0, 1}, {"b", 0, 1}, {"c", 0, 0}, {"d", 1, 0}, {"e", 1, 0}, {"f", 3, 7}},
		{{"f", 0, 1}, {"e", 0, 2}, {"d", 0, 3}, {"c", 0, 4}, {"b", 0, 5}, {"a", 0, 6}},
		{{"a", 3, 0}, {"b", 2, 0}, {"c", 1, 0}, {"d", 0, 0}, {"e", 0, 0}, {"", 3, 0}},
		{{"a", 2, math.MaxUint64}, {"b", 2, math.MaxUint64 - 1}, {"c", 2, 1 << 63}, {"d", 2, 1<<63 - 1}, {"e", 2, 1}, {"f", 2, 0}},
	} {
		want := (&model{l}).all()
		orders(slices.Clone(l), func(l []item) {
			r, m := row(t, l...)
			if got := slices.Collect(r.All()); !slices.Equal(got, want) {
				t.Fatalf("%v: %q, not %q", l, got, want)
			}
			whole(t, "orders", r, m)
		})
	}
}

// TestTexts: a name is any text; of one priority and order they rise byte by byte.
func TestTexts(t *testing.T) {
	long := strings.Repeat("n", 100000)
	names := []string{"b", "", "a", "ab", "aa", "A", "\xff", "a\x00", "\x00", " ", "\xff\xfe", "ä", "z", "10", "9", long + "n", long, "日", "a.1"}
	r, m := row(t)
	for i, name := range names {
		put(t, r, m, item{name, 2, 5})
		put(t, r, m, item{name, i % 4, 4})
		holds(t, "texts", r, m, names...)
	}
	l := slices.Collect(r.All())
	if len(l) != len(names) || !slices.IsSorted(l) {
		t.Errorf("%q", l)
	}
	for _, name := range names {
		cut(t, r, m, name)
		whole(t, "cut", r, m, names...)
	}
}

// step is something that is done to a row and to its model.
type step func(t *testing.T, r *ready.Row, m *model)

// steps puts each of some names with each of some priorities and orders, cuts each, and takes.
func steps(names []string, priorities []int, orders []uint64) []step {
	l := []step{take}
	for _, name := range names {
		l = append(l, func(t *testing.T, r *ready.Row, m *model) { cut(t, r, m, name) })
		for _, p := range priorities {
			for _, order := range orders {
				l = append(l, func(t *testing.T, r *ready.Row, m *model) { put(t, r, m, item{name, p, order}) })
			}
		}
	}
	return l
}

// do does all rows of so many steps.
func do(t *testing.T, l []step, r *ready.Row, m *model, left int) {
	t.Helper()
	if left == 0 {
		return
	}
	for _, s := range l {
		r, m := r.Copy(), m.copy()
		s(t, r, m)
		holds(t, "steps", r, m, "a", "b")
		do(t, l, r, m, left-1)
	}
}

// TestSteps does all short rows of some steps.
func TestSteps(t *testing.T) {
	less := 0
	if testing.Short() {
		less = 1
	}
	r, m := row(t)
	do(t, steps([]string{"a", "b"}, []int{0, 1}, []uint64{0, 1}), r, m, 5-less)
	do(t, steps([]string{"a", "b", "c"}, []int{1, 2}, []uint64{5}), r, m, 5-less)
	do(t, steps([]string{"", "a", "b"}, []int{-1, 0, 3, 4}, []uint64{0, math.MaxUint64}), r, m, 3)
}

// TestChance does long rows of steps by chance.
func TestChance(t *testing.T) {
	ends := []uint64{0, 1, 2, math.MaxInt64, 1 << 63, math.MaxUint64 - 1, math.MaxUint64}
	for seed := range int64(60) {
		chance := rand.New(rand.NewSource(seed))
		names := 1 + chance.Intn(api.MaxJobs)
		most := 1 + chance.Intn(1<<chance.Intn(8))
		r, m := row(t)
		for i := range 1200 {
			name := "job" + strconv.Itoa(chance.Intn(names))
			order := uint64(chance.Intn(most))
			if seed%3 == 0 {
				order = ends[chance.Intn(len(ends))]
			}
			// In turns it grows and shrinks.
			grows := i/200%2 == 0
			switch k := chance.Intn(20); {
			case k < 6 || grows && k < 15:
				put(t, r, m, item{name, chance.Intn(4), order})
			case k < 12:
				take(t, r, m)
			case k < 17:
				cut(t, r, m, name)
			case k < 18:
				put(t, r, m, item{name, chance.Intn(20) - 8, order})
			case k < 19:
				whole(t, "chance", r, m, name)
			default:
				r = r.Copy()
			}
			if r.Has(name) != (m.find(name) >= 0) {
				t.Fatalf("seed %d: Has(%q): %v", seed, name, r.Has(name))
			}
		}
		whole(t, "in the end", r, m)
	}
}

func TestNil(t *testing.T) {
	var r *ready.Row
	for _, name := range []string{"", "a"} {
		for _, p := range priorities() {
			for _, order := range []uint64{0, 1, math.MaxUint64} {
				if e := r.Put(name, p, order); e != api.ErrArg {
					t.Errorf("Put(%q, %d, %d): %d", name, p, order, e)
				}
			}
			if r.Len(p) != 0 {
				t.Errorf("Len(%d): %d", p, r.Len(p))
			}
		}
		if r.Has(name) || r.Cut(name) {
			t.Error("a nil row has somebody")
		}
	}
	if name, ok := r.Next(); name != "" || ok {
		t.Error("Next:", name, ok)
	}
	if name, ok := r.Take(); name != "" || ok {
		t.Error("Take:", name, ok)
	}
	for name := range r.All() {
		t.Error("All:", name)
	}
	r.All()(nil)
	if r.Copy() != nil {
		t.Error("Copy")
	}
}

// TestZero: a row that isn't of New has nobody.
func TestZero(t *testing.T) {
	for _, s := range steps([]string{"a"}, []int{-1, 0, 3, 4}, []uint64{0, 5}) {
		r, m := &ready.Row{}, &model{}
		whole(t, "zero", r, m, "a")
		c := r.Copy()
		s(t, r, m)
		whole(t, "zero, changed", r, m, "a")
		whole(t, "its copy", c, &model{}, "a")
		m = &model{}
		s(t, c, m)
		whole(t, "its copy, changed", c, m, "a")
	}
}

// TestCopy: a row and its copy are apart, whatever is done to one of them.
func TestCopy(t *testing.T) {
	build := func(n int) (*ready.Row, *model) {
		r, m := row(t)
		for i := range n {
			put(t, r, m, item{strconv.Itoa(i * 7 % 10), i * i % 4, uint64(i % 3)})
		}
		return r, m
	}
	names := []string{"0", "1", "7", "new"}
	for n := range 10 {
		for _, s := range append(steps(names, []int{0, 1, 2, 3}, []uint64{0, 9}), func(t *testing.T, r *ready.Row, m *model) {
			for range n + 1 {
				take(t, r, m)
			}
			put(t, r, m, item{"new", 1, 1})
		}) {
			r, m := build(n)
			c, o := r.Copy(), m.copy()
			if c == r {
				t.Fatal("Copy: itself")
			}
			whole(t, "copy", c, o, names...)
			s(t, r, m)
			whole(t, "changed", r, m, names...)
			whole(t, "copy of one that was changed", c, o, names...)

			r, m = build(n)
			c, o = r.Copy(), m.copy()
			s(t, c, o)
			whole(t, "copy that was changed", c, o, names...)
			whole(t, "whose copy was changed", r, m, names...)
			s(t, r, m)
			whole(t, "both changed", r, m, names...)
			whole(t, "both changed", c, o, names...)
		}
	}
}

func TestAllIterator(t *testing.T) {
	items := []item{{"d", 1, 1}, {"b", 0, 2}, {"f", 3, 0}, {"a", 0, 1}, {"c", 0, 2}, {"e", 1, 1}}
	want := []string{"a", "b", "c", "d", "e", "f"}
	r, m := row(t, items...)
	all := r.All()
	for range 3 {
		if l := slices.Collect(all); !slices.Equal(l, want) {
			t.Fatalf("%q", l)
		}
	}
	for n := range 8 {
		var l []string
		for name := range all {
			if len(l) == n {
				break
			}
			l = append(l, name)
		}
		if !slices.Equal(l, want[:min(n, 6)]) {
			t.Fatalf("up to %d: %q", n, l)
		}
	}
	all(nil)
	whole(t, "told", r, m)
	// Changed while it is gone through: it tells all that were there.
	for _, s := range []step{
		take,
		func(t *testing.T, r *ready.Row, m *model) { cut(t, r, m, "e"); cut(t, r, m, "c") },
		func(t *testing.T, r *ready.Row, m *model) {
			put(t, r, m, item{"ba", 0, 2})
			put(t, r, m, item{"z", 3, 9})
		},
		func(t *testing.T, r *ready.Row, m *model) { cut(t, r, m, "f"); put(t, r, m, item{"f", 0, 0}) },
	} {
		r, m := row(t, items...)
		all := r.All()
		for range 2 {
			var l []string
			for name := range all {
				s(t, r, m)
				l = append(l, name)
			}
			if !slices.Equal(l, want) {
				t.Errorf("%q", l)
			}
		}
		whole(t, "changed while told", r, m, "ba", "z")
	}
}

// TestFast: each call but All and Copy ends in a short while, however many are there.
func TestFast(t *testing.T) {
	begin := time.Now()
	const many = 100000
	r := ready.New()
	for _, i := range rand.New(rand.NewSource(16)).Perm(many) {
		if e := r.Put(strconv.Itoa(i), i%4, uint64(i/3)); e != api.OK {
			t.Fatal(i, e)
		}
	}
	for i := 0; i < many; i += 5 {
		if !r.Cut(strconv.Itoa(i)) || r.Has(strconv.Itoa(i)) || !r.Has(strconv.Itoa(i+1)) {
			t.Fatal(i)
		}
	}
	for p := range 4 {
		if r.Len(p) != many/5 {
			t.Error(p, r.Len(p))
		}
	}
	n := 0
	for name := range r.All() {
		next, _ := r.Next()
		if got, ok := r.Take(); got != name || next != name || !ok {
			t.Fatal(got, next, name)
		}
		n++
	}
	if name, ok := r.Next(); n != many/5*4 || name != "" || ok {
		t.Error("in the end:", n, name, ok)
	}
	if d := time.Since(begin); d > 20*time.Second {
		t.Error("it took", d)
	}
}
