package dag_test

import (
	"cmp"
	"maps"
	"math"
	"math/rand"
	"slices"
	"strconv"
	"testing"
	"time"

	"compline/api"
	"compline/dag"
)

// model is a graph by the words of chapter 11: nodes, and of each those that it stands on.
type model[K cmp.Ordered] map[K]map[K]bool

func (m model[K]) has(k K) bool { return m[k] != nil }

// stands is whether one stands on another one, through whatever many.
func (m model[K]) stands(k, on K) bool {
	for x := range m[k] {
		if x == on || m.stands(x, on) {
			return true
		}
	}
	return false
}

func (m model[K]) add(k K, on ...K) api.Errno {
	if m.has(k) {
		return api.ErrSame
	}
	s := map[K]bool{}
	for _, x := range on {
		if !m.has(x) {
			return api.ErrNone
		}
		s[x] = true
	}
	m[k] = s
	return api.OK
}

func (m model[K]) link(k, on K) api.Errno {
	switch {
	case !m.has(k) || !m.has(on):
		return api.ErrNone
	case k == on || m.stands(on, k):
		return api.ErrLoop
	case m[k][on]:
		return api.ErrSame
	}
	m[k][on] = true
	return api.OK
}

func (m model[K]) cut(k K) api.Errno {
	if !m.has(k) {
		return api.ErrNone
	}
	delete(m, k)
	for _, s := range m {
		delete(s, k)
	}
	return api.OK
}

// those is the nodes of which something holds, rising.
func (m model[K]) those(holds func(k K) bool) []K {
	var l []K
	for k := range m {
		if holds(k) {
			l = append(l, k)
		}
	}
	slices.Sort(l)
	return l
}

func (m model[K]) on(k K) []K    { return m.those(func(x K) bool { return m[k][x] }) }
func (m model[K]) users(k K) []K { return m.those(func(x K) bool { return m[x][k] }) }
func (m model[K]) all(k K) []K   { return m.those(func(x K) bool { return m.stands(x, k) }) }

// order goes through all nodes for each one: those that may be next, and the least of them.
func (m model[K]) order() []K {
	var l []K
	for len(l) < len(m) {
		l = append(l, m.those(func(k K) bool {
			for x := range m[k] {
				if !slices.Contains(l, x) {
					return false
				}
			}
			return !slices.Contains(l, k)
		})[0])
	}
	return l
}

func (m model[K]) copy() model[K] {
	c := model[K]{}
	for k, s := range m {
		c[k] = maps.Clone(s)
	}
	return c
}

// holds holds all that can be asked of a graph against its model, of nodes that may not be there too.
func holds[K cmp.Ordered](t *testing.T, what string, g *dag.Graph[K], m model[K], keys ...K) {
	t.Helper()
	if g.Len() != len(m) {
		t.Fatalf("%s: Len: %d, not %d", what, g.Len(), len(m))
	}
	if l, want := slices.Collect(g.Order()), m.order(); !slices.Equal(l, want) {
		t.Fatalf("%s: Order: %v, not %v", what, l, want)
	}
	for _, k := range slices.Concat(slices.Collect(maps.Keys(m)), keys) {
		if l, want := g.On(k), m.on(k); !slices.Equal(l, want) {
			t.Fatalf("%s: On(%v): %v, not %v", what, k, l, want)
		}
		if l, want := g.Users(k), m.users(k); !slices.Equal(l, want) {
			t.Fatalf("%s: Users(%v): %v, not %v", what, k, l, want)
		}
		if l, want := g.All(k), m.all(k); !slices.Equal(l, want) {
			t.Fatalf("%s: All(%v): %v, not %v", what, k, l, want)
		}
	}
}

// add, link and cut do the same to a graph and to its model.
func add[K cmp.Ordered](t *testing.T, g *dag.Graph[K], m model[K], k K, on ...K) {
	t.Helper()
	if e, want := g.Add(k, on...), m.add(k, on...); e != want {
		t.Fatalf("Add(%v, %v): %d, not %d, of %v", k, on, e, want, m)
	}
}

func link[K cmp.Ordered](t *testing.T, g *dag.Graph[K], m model[K], k, on K) {
	t.Helper()
	if e, want := g.Link(k, on), m.link(k, on); e != want {
		t.Fatalf("Link(%v, %v): %d, not %d, of %v", k, on, e, want, m)
	}
}

func cut[K cmp.Ordered](t *testing.T, g *dag.Graph[K], m model[K], k K) {
	t.Helper()
	if e, want := g.Cut(k), m.cut(k); e != want {
		t.Fatalf("Cut(%v): %d, not %d, of %v", k, e, want, m)
	}
}

// is holds one answer against what it should be.
func is(t *testing.T, what string, e, want api.Errno) {
	t.Helper()
	if e != want {
		t.Errorf("%s: %d, not %d", what, e, want)
	}
}

// row holds a row against what it should be.
func row[K comparable](t *testing.T, what string, l []K, want ...K) {
	t.Helper()
	if !slices.Equal(l, want) {
		t.Errorf("%s: %v, not %v", what, l, want)
	}
}

// TestExample is the chapter's.
func TestExample(t *testing.T) {
	g := dag.New[string]()
	is(t, "Add a", g.Add("a"), api.OK)
	is(t, "Add b", g.Add("b", "a"), api.OK)
	is(t, "Add c", g.Add("c", "b"), api.OK)
	is(t, "Link a on c", g.Link("a", "c"), api.ErrLoop)
	row(t, "Order", slices.Collect(g.Order()), "a", "b", "c")
}

func TestNew(t *testing.T) {
	g, m := dag.New[int](), model[int]{}
	if g == nil {
		t.Fatal("New: nil")
	}
	holds(t, "New", g, m, 0, 1)
	cut(t, g, m, 0)
	link(t, g, m, 0, 0)
	add(t, g, m, 0, 1)
	holds(t, "still", g, m, 0, 1)
	holds(t, "a copy", g.Copy(), m, 0, 1)
	h := dag.New[int]()
	is(t, "Add", h.Add(0), api.OK)
	holds(t, "another one of New", g, m, 0)
}

// diamond is a under b and c, and d on both; e is alone.
func diamond(t *testing.T) (*dag.Graph[string], model[string]) {
	t.Helper()
	g, m := dag.New[string](), model[string]{}
	add(t, g, m, "e")
	add(t, g, m, "a")
	add(t, g, m, "c", "a")
	add(t, g, m, "b", "a")
	add(t, g, m, "d", "c", "b")
	return g, m
}

func TestAsked(t *testing.T) {
	g, m := diamond(t)
	row(t, "On d", g.On("d"), "b", "c")
	row(t, "On a", g.On("a"))
	row(t, "Users a", g.Users("a"), "b", "c")
	row(t, "Users d", g.Users("d"))
	row(t, "All a", g.All("a"), "b", "c", "d")
	row(t, "All c", g.All("c"), "d")
	row(t, "All e", g.All("e"))
	row(t, "On nobody", g.On("x"))
	row(t, "Users of nobody", g.Users("x"))
	row(t, "All of nobody", g.All("x"))
	row(t, "Order", slices.Collect(g.Order()), "a", "b", "c", "d", "e")
	if g.Len() != 5 {
		t.Error("Len:", g.Len())
	}
	holds(t, "the diamond", g, m, "x", "")
}

// TestOrderLeastFirst: what becomes free comes ahead of greater ones that were free before.
func TestOrderLeastFirst(t *testing.T) {
	g := dag.New[int]()
	for _, k := range []int{9, 5, 7} {
		is(t, "Add", g.Add(k), api.OK)
	}
	is(t, "Add", g.Add(1, 7), api.OK)
	is(t, "Add", g.Add(8, 5), api.OK)
	is(t, "Add", g.Add(2, 9, 1), api.OK)
	is(t, "Add", g.Add(6, 5, 5), api.OK)
	row(t, "Order", slices.Collect(g.Order()), 5, 6, 7, 1, 8, 9, 2)
}

func TestAdd(t *testing.T) {
	g, m := diamond(t)
	is(t, "Add a again", g.Add("a"), api.ErrSame)
	is(t, "Add a again, on e", g.Add("a", "e"), api.ErrSame)
	is(t, "Add d again, on what it stands on", g.Add("d", "b", "c"), api.ErrSame)
	is(t, "Add a again, on nobody", g.Add("a", "x"), api.ErrSame)
	is(t, "Add a again, on itself", g.Add("a", "a"), api.ErrSame)
	is(t, "Add on nobody", g.Add("f", "x"), api.ErrNone)
	is(t, "Add on nobody behind one", g.Add("f", "a", "x"), api.ErrNone)
	is(t, "Add on nobody ahead of one", g.Add("f", "x", "a"), api.ErrNone)
	is(t, "Add on itself", g.Add("f", "f"), api.ErrNone)
	is(t, "Add on itself behind one", g.Add("f", "a", "f"), api.ErrNone)
	holds(t, "what is refused", g, m, "f", "x")
	add(t, g, m, "f", "e", "d", "e", "e", "d")
	row(t, "On f", g.On("f"), "d", "e")
	row(t, "Users e", g.Users("e"), "f")
	add(t, g, m, "0", []string{}...)
	holds(t, "more", g, m, "x")
}

func TestLink(t *testing.T) {
	g, m := diamond(t)
	is(t, "Link of nobody", g.Link("x", "a"), api.ErrNone)
	is(t, "Link on nobody", g.Link("a", "x"), api.ErrNone)
	is(t, "Link of nobody on itself", g.Link("x", "x"), api.ErrNone)
	is(t, "Link of nobody on nobody", g.Link("x", "y"), api.ErrNone)
	for _, k := range []string{"a", "b", "c", "d", "e"} {
		is(t, "Link on itself", g.Link(k, k), api.ErrLoop)
	}
	is(t, "Link on one's user", g.Link("a", "b"), api.ErrLoop)
	is(t, "Link on one's user's user", g.Link("a", "d"), api.ErrLoop)
	is(t, "Link again", g.Link("d", "c"), api.ErrSame)
	holds(t, "what is refused", g, m, "x", "y")
	// Through another one isn't at once: it may be linked.
	link(t, g, m, "d", "a")
	row(t, "On d", g.On("d"), "a", "b", "c")
	is(t, "Link again, at once", g.Link("d", "a"), api.ErrSame)
	link(t, g, m, "b", "c")
	is(t, "Link the other way", g.Link("c", "b"), api.ErrLoop)
	link(t, g, m, "a", "e")
	is(t, "Link through all", g.Link("e", "d"), api.ErrLoop)
	row(t, "Order", slices.Collect(g.Order()), "e", "a", "c", "b", "d")
	holds(t, "linked", g, m, "x")
}

func TestCut(t *testing.T) {
	g, m := diamond(t)
	is(t, "Cut nobody", g.Cut("x"), api.ErrNone)
	holds(t, "behind nobody", g, m, "x")
	cut(t, g, m, "b")
	row(t, "On d", g.On("d"), "c")
	row(t, "Users a", g.Users("a"), "c")
	holds(t, "cut", g, m, "b")
	is(t, "Cut again", g.Cut("b"), api.ErrNone)
	is(t, "Link of who was cut", g.Link("b", "a"), api.ErrNone)
	is(t, "Link on who was cut", g.Link("d", "b"), api.ErrNone)
	is(t, "Add on who was cut", g.Add("f", "b"), api.ErrNone)
	cut(t, g, m, "c")
	row(t, "All a", g.All("a"))
	// What went through who was cut is no loop any more.
	link(t, g, m, "a", "d")
	// Who comes back comes without its users.
	add(t, g, m, "b")
	row(t, "Users b", g.Users("b"))
	row(t, "On b", g.On("b"))
	link(t, g, m, "b", "a")
	holds(t, "back", g, m, "c")
	for _, k := range []string{"d", "a", "e", "b"} {
		cut(t, g, m, k)
		holds(t, "cut", g, m, k)
	}
	add(t, g, m, "a")
	holds(t, "behind nothing", g, m)
}

// TestAllGraphs is of all links among few, one behind the other: of each graph that comes about, each link and each cut.
func TestAllGraphs(t *testing.T) {
	const n = 4
	var pairs [][2]int
	for k := range n {
		for on := range n {
			if k != on {
				pairs = append(pairs, [2]int{k, on})
			}
		}
	}
	for bits := range 1 << len(pairs) {
		g, m := dag.New[int](), model[int]{}
		for k := range n {
			add(t, g, m, k)
		}
		for i, p := range pairs {
			if bits>>i&1 > 0 {
				link(t, g, m, p[0], p[1])
			}
		}
		holds(t, "linked", g, m, -1, n)
		for i := range n * n {
			h, w := g.Copy(), m.copy()
			link(t, h, w, i/n, i%n)
			holds(t, "linked once more", h, w)
		}
		for k := range n {
			h, w := g.Copy(), m.copy()
			cut(t, h, w, k)
			holds(t, "cut", h, w, k)
		}
	}
}

// all plays all rows of so many steps: each adds one on any of all, links two, or cuts one.
func all(t *testing.T, g *dag.Graph[int], m model[int], keys, steps int) {
	t.Helper()
	holds(t, "all", g, m, 0, keys)
	if steps == 0 {
		return
	}
	do := func(f func(*testing.T, *dag.Graph[int], model[int])) {
		h, w := g.Copy(), m.copy()
		f(t, h, w)
		all(t, h, w, keys, steps-1)
	}
	for k := range keys {
		for bits := range 1 << keys {
			var on []int
			for x := range keys {
				if bits>>x&1 > 0 {
					on = append(on, x)
				}
			}
			do(func(t *testing.T, g *dag.Graph[int], m model[int]) { add(t, g, m, k, on...) })
		}
		for on := range keys {
			do(func(t *testing.T, g *dag.Graph[int], m model[int]) { link(t, g, m, k, on) })
		}
		do(func(t *testing.T, g *dag.Graph[int], m model[int]) { cut(t, g, m, k) })
	}
}

func TestAllSteps(t *testing.T) {
	all(t, dag.New[int](), model[int]{}, 3, 3)
	all(t, dag.New[int](), model[int]{}, 2, 4)
	all(t, dag.New[int](), model[int]{}, 1, 5)
}

// some is some of the keys by chance, some of them twice.
func some[K any](r *rand.Rand, keys []K) []K {
	var l []K
	for range r.Intn(5) {
		l = append(l, keys[r.Intn(len(keys))])
	}
	return l
}

// play plays a long row of steps by chance, with keys of these.
func play[K cmp.Ordered](t *testing.T, seed int64, keys []K) {
	t.Helper()
	r := rand.New(rand.NewSource(seed))
	g, m := dag.New[K](), model[K]{}
	for i := range 3000 {
		k := keys[r.Intn(len(keys))]
		// In turns it grows and shrinks.
		grows := i/300%2 == 0
		switch n := r.Intn(12); {
		case n < 2 || grows && n < 4:
			// Those that are there are asked for: of any, most would be refused.
			add(t, g, m, k, some(r, append(slices.Collect(g.Order()), k))...)
		case n < 3:
			add(t, g, m, k, some(r, keys)...)
		case n < 6 || grows && n < 10:
			link(t, g, m, k, keys[r.Intn(len(keys))])
		case n < 10:
			cut(t, g, m, k)
		default:
			g = g.Copy()
		}
		if i%10 == 0 {
			holds(t, "any step", g, m, k)
		}
	}
}

type name string
type level uint8

// TestAnySteps is of many types, with values at their ends.
func TestAnySteps(t *testing.T) {
	var names []name
	var texts []string
	var levels []level
	for i := range 20 {
		names = append(names, name(strconv.Itoa(i)))
		texts = append(texts, string([]byte{byte(i * 13), byte(i * 7)})[:i%3])
		levels = append(levels, level(i*13))
	}
	play(t, 1, names)
	play(t, 2, texts)
	play(t, 3, levels)
	play(t, 4, []int64{math.MinInt64, math.MinInt64 + 1, -1, 0, 1, math.MaxInt64 - 1, math.MaxInt64})
	play(t, 5, []uint64{0, 1, 1<<63 - 1, 1 << 63, math.MaxUint64 - 1, math.MaxUint64})
	play(t, 6, []float64{math.Inf(-1), -math.MaxFloat64, -1, -math.SmallestNonzeroFloat64, 0, math.Copysign(0, -1), 0.5, math.MaxFloat64, math.Inf(1)})
	play(t, 7, []float32{-1.5, 0, 2.5, 3})
	play(t, 8, []int8{-128, -1, 0, 1, 127})
	play(t, 9, []uintptr{0, 1, 2, 3, 4, 5})
	play(t, 10, []int{0})
}

// TestZeroes: both zeroes of floats are one node.
func TestZeroes(t *testing.T) {
	minus := math.Copysign(0, -1)
	g := dag.New[float64]()
	is(t, "Add 0", g.Add(0), api.OK)
	is(t, "Add -0", g.Add(minus), api.ErrSame)
	is(t, "Add 1", g.Add(1, minus, 0), api.OK)
	is(t, "Link on -0", g.Link(1, minus), api.ErrSame)
	is(t, "Link 0 on -0", g.Link(0, minus), api.ErrLoop)
	if l := g.On(1); len(l) != 1 || l[0] != 0 || math.Signbit(l[0]) {
		t.Error("On: not as it was put in:", l)
	}
	is(t, "Cut -0", g.Cut(minus), api.OK)
	row(t, "Order", slices.Collect(g.Order()), 1)
}

// nans holds a row with NaNs against what it should be.
func nans(t *testing.T, what string, l []float64, want ...float64) {
	t.Helper()
	if slices.Compare(l, want) != 0 {
		t.Errorf("%s: %v, not %v", what, l, want)
	}
}

// TestNaN: what is no number is a node as any, below all others.
func TestNaN(t *testing.T) {
	nan := math.NaN()
	other := math.Float64frombits(math.Float64bits(nan) ^ 1)
	g := dag.New[float64]()
	is(t, "Add 0", g.Add(0), api.OK)
	is(t, "Add on NaN that isn't there", g.Add(1, nan), api.ErrNone)
	is(t, "Cut NaN that isn't there", g.Cut(nan), api.ErrNone)
	is(t, "Link of NaN that isn't there", g.Link(nan, 0), api.ErrNone)
	nans(t, "On NaN that isn't there", g.On(nan))
	is(t, "Add NaN on itself", g.Add(nan, nan), api.ErrNone)
	is(t, "Add NaN", g.Add(nan, 0), api.OK)
	is(t, "Add NaN again", g.Add(other), api.ErrSame)
	is(t, "Add on NaN", g.Add(-1, other, 0, nan), api.OK)
	is(t, "Add", g.Add(math.Inf(-1)), api.OK)
	is(t, "Link NaN on itself", g.Link(nan, other), api.ErrLoop)
	is(t, "Link NaN in a loop", g.Link(nan, -1), api.ErrLoop)
	is(t, "Link through NaN", g.Link(0, -1), api.ErrLoop)
	is(t, "Link NaN again", g.Link(nan, 0), api.ErrSame)
	is(t, "Link NaN", g.Link(nan, math.Inf(-1)), api.OK)
	for range 2 {
		if g.Len() != 4 {
			t.Error("Len:", g.Len())
		}
		nans(t, "Order", slices.Collect(g.Order()), math.Inf(-1), 0, nan, -1)
		nans(t, "On", g.On(-1), nan, 0)
		nans(t, "On NaN", g.On(nan), math.Inf(-1), 0)
		nans(t, "Users", g.Users(0), nan, -1)
		nans(t, "Users of NaN", g.Users(nan), -1)
		nans(t, "All", g.All(0), nan, -1)
		nans(t, "All of NaN", g.All(other), -1)
		g = g.Copy()
	}
	is(t, "Cut NaN", g.Cut(nan), api.OK)
	is(t, "Cut NaN again", g.Cut(nan), api.ErrNone)
	nans(t, "Order without", slices.Collect(g.Order()), math.Inf(-1), 0, -1)
	nans(t, "On without", g.On(-1), 0)
	nans(t, "Users without", g.Users(0), -1)
}

// TestNaNAmongMany: it is the least one of those that may be next, whenever it was put in.
func TestNaNAmongMany(t *testing.T) {
	for at := range 9 {
		g := dag.New[float64]()
		for k := range 8 {
			if k == at {
				is(t, "Add NaN", g.Add(math.NaN()), api.OK)
			}
			is(t, "Add", g.Add(float64(k*3%8)), api.OK)
		}
		if at == 8 {
			is(t, "Add NaN", g.Add(math.NaN(), 3), api.OK)
			nans(t, "Order", slices.Collect(g.Order()), 0, 1, 2, 3, math.NaN(), 4, 5, 6, 7)
		} else {
			nans(t, "Order", slices.Collect(g.Order()), math.NaN(), 0, 1, 2, 3, 4, 5, 6, 7)
		}
	}
}

func TestNilGraph(t *testing.T) {
	var g *dag.Graph[string]
	is(t, "Add", g.Add("a"), api.ErrArg)
	is(t, "Add on itself", g.Add("a", "a"), api.ErrArg)
	is(t, "Link", g.Link("a", "b"), api.ErrArg)
	is(t, "Link on itself", g.Link("a", "a"), api.ErrArg)
	is(t, "Cut", g.Cut("a"), api.ErrArg)
	if g.On("a") != nil || g.Users("a") != nil || g.All("a") != nil || g.Len() != 0 || g.Copy() != nil {
		t.Error("a nil graph has something")
	}
	for k := range g.Order() {
		t.Error("Order:", k)
	}
	g.Order()(nil)
}

// TestGraphOfNothing: a graph that isn't of New has no nodes.
func TestGraphOfNothing(t *testing.T) {
	g, m := &dag.Graph[string]{}, model[string]{}
	holds(t, "of nothing", g, m, "a")
	holds(t, "its copy", g.Copy(), m, "a")
	cut(t, g, m, "a")
	link(t, g, m, "a", "a")
	add(t, g, m, "a", "a")
	add(t, g, m, "a")
	add(t, g, m, "b", "a")
	holds(t, "of two", g, m, "c")
}

// TestHandedIn: what is handed in is neither changed nor kept, its spare room neither.
func TestHandedIn(t *testing.T) {
	g, m := diamond(t)
	room := []string{"d", "a", "d", "c", "spare", "room"}
	on := room[:4]
	add(t, g, m, "f", on...)
	row(t, "handed in", room, "d", "a", "d", "c", "spare", "room")
	clear(room)
	holds(t, "behind it", g, m)
	row(t, "On f", g.On("f"), "a", "c", "d")
}

// TestAnswers are new memory: who writes on them changes nothing else.
func TestAnswers(t *testing.T) {
	g, m := diamond(t)
	ask := []func() []string{
		func() []string { return g.On("d") },
		func() []string { return g.Users("a") },
		func() []string { return g.All("a") },
	}
	for i, f := range ask {
		for j, h := range ask {
			a, b := f(), h()
			want := slices.Clone(b)
			clear(a[:cap(a)])
			if !slices.Equal(b, want) {
				t.Errorf("answers %d and %d share memory", i, j)
			}
			holds(t, "behind writing on an answer", g, m)
		}
	}
}

// TestTheGraphStays: who asks changes nothing.
func TestTheGraphStays(t *testing.T) {
	g, m := diamond(t)
	want := m.order()
	order := g.Order()
	for n := range 7 {
		var l []string
		for k := range order {
			if len(l) == n {
				break
			}
			l = append(l, k)
		}
		if !slices.Equal(l, want[:min(n, 5)]) {
			t.Fatalf("Order up to %d: %v", n, l)
		}
		g.On("d")
		g.Users("a")
		g.All("a")
		g.Len()
		g.Copy()
	}
	order(nil)
	holds(t, "behind all", g, m)
}

// TestOrderWhileChanged: what is told is what the graph had when it was asked, whatever is done to it meanwhile.
func TestOrderWhileChanged(t *testing.T) {
	do := []func(g *dag.Graph[string], k string){
		func(g *dag.Graph[string], k string) { g.Cut(k) },
		func(g *dag.Graph[string], k string) { g.Cut("d") },
		func(g *dag.Graph[string], k string) { g.Add(k+"0", k) },
		func(g *dag.Graph[string], k string) { g.Link("b", "c") },
	}
	for i, f := range do {
		g, m := diamond(t)
		order := g.Order()
		for range 2 {
			var l []string
			for k := range order {
				f(g, k)
				l = append(l, k)
			}
			if !slices.Equal(l, m.order()) {
				t.Errorf("%d: %v, not %v", i, l, m.order())
			}
		}
	}
}

// TestCopy: a graph and its copy are apart, whatever is done to one of them.
func TestCopy(t *testing.T) {
	do := []func(*testing.T, *dag.Graph[string], model[string]){
		func(t *testing.T, g *dag.Graph[string], m model[string]) { cut(t, g, m, "a") },
		func(t *testing.T, g *dag.Graph[string], m model[string]) { cut(t, g, m, "c") },
		func(t *testing.T, g *dag.Graph[string], m model[string]) { cut(t, g, m, "d") },
		func(t *testing.T, g *dag.Graph[string], m model[string]) { add(t, g, m, "f", "a", "d") },
		func(t *testing.T, g *dag.Graph[string], m model[string]) { link(t, g, m, "d", "a") },
		func(t *testing.T, g *dag.Graph[string], m model[string]) { link(t, g, m, "e", "d") },
	}
	for _, f := range do {
		g, m := diamond(t)
		h, w := g.Copy(), m.copy()
		if g == h {
			t.Fatal("Copy: itself")
		}
		f(t, h, w)
		holds(t, "the graph", g, m, "f")
		holds(t, "its copy, changed", h, w, "f")
		h, w = g.Copy(), m.copy()
		f(t, g, m)
		holds(t, "the graph, changed", g, m, "f")
		holds(t, "its copy", h, w, "f")
		f(t, h, w)
		holds(t, "both changed", g, m, "f")
		holds(t, "both changed", h, w, "f")
	}
}

// soon is whether something took no longer than it may.
func soon(t *testing.T, what string, f func()) {
	t.Helper()
	start := time.Now()
	f()
	if d := time.Since(start); d > 20*time.Second {
		t.Error(what, "took", d)
	}
}

// TestLongChain is linked from one end, and from the other one.
func TestLongChain(t *testing.T) {
	const n = 50000
	for _, up := range []bool{true, false} {
		soon(t, "a chain", func() {
			g := dag.New[int]()
			for k := range n {
				g.Add(k)
			}
			for i := range n - 1 {
				k := i
				if !up {
					k = n - 2 - i
				}
				if e := g.Link(k+1, k); e != api.OK {
					t.Fatal("Link:", k, e)
				}
			}
			is(t, "Link into a loop", g.Link(0, n-1), api.ErrLoop)
			want := 0
			for k := range g.Order() {
				if k != want {
					t.Fatalf("Order: %d, not %d", k, want)
				}
				want++
			}
			if want != n || len(g.All(0)) != n-1 || len(g.All(n-1)) != 0 {
				t.Error("in the end:", want, len(g.All(0)), len(g.All(n-1)))
			}
		})
	}
}

// TestManyUsers is of one on whom very many stand, and that stands on very many.
func TestManyUsers(t *testing.T) {
	const n = 50000
	soon(t, "a hub", func() {
		g := dag.New[int]()
		g.Add(0)
		for k := 1; k <= n; k++ {
			g.Add(k)
			g.Add(-k)
			if e := g.Link(0, -k); e != api.OK {
				t.Fatal("Link:", k, e)
			}
			if e := g.Link(k, 0); e != api.OK {
				t.Fatal("Link:", k, e)
			}
		}
		if e := g.Link(-n, n); e != api.ErrLoop {
			t.Error("Link into a loop:", e)
		}
		if l := g.On(0); len(l) != n || l[0] != -n || l[n-1] != -1 {
			t.Error("On:", len(l))
		}
		if l := slices.Collect(g.Order()); len(l) != 2*n+1 || !slices.IsSorted(l) {
			t.Error("Order:", len(l))
		}
		g.Cut(0)
		if len(g.Users(-1)) != 0 || len(g.On(1)) != 0 || g.Len() != 2*n {
			t.Error("Cut:", g.Users(-1), g.On(1), g.Len())
		}
	})
}

// TestManyWays: of a net in which there are more ways than could be gone through one by one.
func TestManyWays(t *testing.T) {
	const n = 300
	soon(t, "a net", func() {
		g := dag.New[int]()
		for k := range n {
			var on []int
			for x := range k {
				on = append(on, x)
			}
			if e := g.Add(k, on...); e != api.OK {
				t.Fatal("Add:", k, e)
			}
		}
		is(t, "Link into a loop", g.Link(0, n-1), api.ErrLoop)
		is(t, "Link again", g.Link(n-1, 0), api.ErrSame)
		if l := g.All(0); len(l) != n-1 || !slices.IsSorted(l) {
			t.Error("All:", len(l))
		}
		if l := slices.Collect(g.Order()); len(l) != n || !slices.IsSorted(l) {
			t.Error("Order:", len(l))
		}
	})
}
