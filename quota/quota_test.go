package quota_test

import (
	"maps"
	"math"
	"math/rand"
	"slices"
	"strconv"
	"strings"
	"testing"
	"time"

	"compline/api"
	"compline/quota"
)

// model is a ledger by the words of chapter 13: what was said, and a row of those that were taken and not given, one for each.
type model struct {
	each  int
	said  map[string]int
	taken []string
}

func newModel(each int) *model { return &model{each: each, said: map[string]int{}} }

func (m *model) has(tenant string) int {
	n := 0
	for _, s := range m.taken {
		if s == tenant {
			n++
		}
	}
	return n
}

func (m *model) may(tenant string) int {
	if n, ok := m.said[tenant]; ok {
		return n
	}
	return m.each
}

func (m *model) set(tenant string, most int) api.Errno {
	_, old := m.said[tenant]
	switch {
	case most < 0 || most > 128:
		return api.ErrArg
	case !old && len(m.said) == 16:
		return api.ErrFull
	}
	m.said[tenant] = most
	return api.OK
}

func (m *model) take(tenant string) api.Errno {
	if m.has(tenant) >= m.may(tenant) {
		return api.ErrQuota
	}
	m.taken = append(m.taken, tenant)
	return api.OK
}

func (m *model) give(tenant string) api.Errno {
	i := slices.Index(m.taken, tenant)
	if i < 0 {
		return api.ErrNone
	}
	m.taken = slices.Delete(m.taken, i, i+1)
	return api.OK
}

// pair is one that All tells.
type pair struct {
	tenant string
	n      int
}

func (m *model) all() []pair {
	var l []pair
	for _, tenant := range slices.Compact(slices.Sorted(slices.Values(m.taken))) {
		l = append(l, pair{tenant, m.has(tenant)})
	}
	return l
}

func (m *model) copy() *model {
	return &model{m.each, maps.Clone(m.said), slices.Clone(m.taken)}
}

// collect is what an iterator tells.
func collect(all func(func(string, int) bool)) []pair {
	var l []pair
	for tenant, n := range all {
		l = append(l, pair{tenant, n})
	}
	return l
}

// fresh is a ledger, and a model of it.
func fresh(t *testing.T, each int) (*quota.Ledger, *model) {
	t.Helper()
	l, e := quota.New(each)
	if l == nil || e != api.OK {
		t.Fatalf("New(%d): %v, %d", each, l, e)
	}
	return l, newModel(each)
}

// holds holds all that can be asked of a ledger against its model, tenants that may be unknown to it among it.
func holds(t *testing.T, what string, l *quota.Ledger, m *model, tenants ...string) {
	t.Helper()
	if all, want := collect(l.All()), m.all(); !slices.Equal(all, want) {
		t.Fatalf("%s: All: %v, not %v", what, all, want)
	}
	for _, tenant := range slices.Concat(slices.Collect(maps.Keys(m.said)), m.taken, tenants, []string{"", "no tenant"}) {
		if n, want := l.Has(tenant), m.has(tenant); n != want {
			t.Fatalf("%s: Has(%q): %d, not %d", what, tenant, n, want)
		}
		if n, want := l.May(tenant), m.may(tenant); n != want {
			t.Fatalf("%s: May(%q): %d, not %d", what, tenant, n, want)
		}
	}
}

// set, take and give do the same to a ledger and to its model.
func set(t *testing.T, l *quota.Ledger, m *model, tenant string, most int) {
	t.Helper()
	if e, want := l.Set(tenant, most), m.set(tenant, most); e != want {
		t.Fatalf("Set(%q, %d), %d said: %d, not %d", tenant, most, len(m.said), e, want)
	}
}

func take(t *testing.T, l *quota.Ledger, m *model, tenant string) {
	t.Helper()
	n := m.has(tenant)
	if e, want := l.Take(tenant), m.take(tenant); e != want {
		t.Fatalf("Take(%q), that has %d of %d: %d, not %d", tenant, n, m.may(tenant), e, want)
	}
}

func give(t *testing.T, l *quota.Ledger, m *model, tenant string) {
	t.Helper()
	n := m.has(tenant)
	if e, want := l.Give(tenant), m.give(tenant); e != want {
		t.Fatalf("Give(%q), that has %d: %d, not %d", tenant, n, e, want)
	}
}

// want holds an error against the one that is promised.
func want(t *testing.T, what string, got, want api.Errno) {
	t.Helper()
	if got != want {
		t.Errorf("%s: %d, not %d", what, got, want)
	}
}

func TestExample(t *testing.T) {
	l, e := quota.New(2)
	want(t, "New", e, api.OK)
	for i, e := range []api.Errno{api.OK, api.OK, api.ErrQuota, api.ErrQuota} {
		want(t, "Take "+strconv.Itoa(i), l.Take("a"), e)
	}
	if l.Has("a") != 2 || l.May("a") != 2 || l.Has("b") != 0 || l.May("b") != 2 {
		t.Error(l.Has("a"), l.May("a"), l.Has("b"), l.May("b"))
	}
	// Others have what they may apart from it.
	want(t, "Take b", l.Take("b"), api.OK)
	if all := collect(l.All()); !slices.Equal(all, []pair{{"a", 2}, {"b", 1}}) {
		t.Error(all)
	}
	want(t, "Give", l.Give("a"), api.OK)
	want(t, "Take behind Give", l.Take("a"), api.OK)
	want(t, "Take", l.Take("a"), api.ErrQuota)
}

func TestNew(t *testing.T) {
	for _, each := range []int{0, 1, 2, 127, 128} {
		l, m := fresh(t, each)
		holds(t, "new", l, m, "a")
		want(t, "Give", l.Give("a"), api.ErrNone)
		for range each + 2 {
			take(t, l, m, "a")
			take(t, l, m, "")
		}
		holds(t, "full", l, m, "a")
		if l.Has("a") != each {
			t.Error(each, l.Has("a"))
		}
	}
	for _, each := range []int{math.MinInt, math.MinInt32, -128, -2, -1, 129, 130, 255, 256, 1 << 20, 1 << 32, 1<<32 + 1, math.MaxInt} {
		if l, e := quota.New(each); l != nil || e != api.ErrArg {
			t.Errorf("New(%d): %v, %d", each, l, e)
		}
	}
}

func TestSet(t *testing.T) {
	l, m := fresh(t, 3)
	for _, most := range []int{0, 1, 2, 3, 4, 127, 128, 5, 0} {
		set(t, l, m, "a", most)
		holds(t, "set", l, m, "a")
		if l.May("a") != most || l.May("b") != 3 {
			t.Error(most, l.May("a"), l.May("b"))
		}
	}
	want(t, "Take of none", l.Take("a"), api.ErrQuota)
	set(t, l, m, "a", 128)
	for range 130 {
		take(t, l, m, "a")
	}
	if l.Has("a") != 128 {
		t.Error(l.Has("a"))
	}
	holds(t, "as many as may be", l, m)
}

// TestSetErrors: what is no count is ErrArg, ahead of ErrFull; what is refused changes nothing.
func TestSetErrors(t *testing.T) {
	wrong := []int{math.MinInt, math.MinInt32, -129, -1, 129, 256, 1 << 32, 1<<32 + 5, math.MaxInt}
	l, m := fresh(t, 3)
	set(t, l, m, "a", 5)
	take(t, l, m, "a")
	refused := func(tenant string, most int, e api.Errno) {
		t.Helper()
		want(t, "Set "+tenant+" "+strconv.Itoa(most), l.Set(tenant, most), e)
		holds(t, "refused", l, m, tenant)
	}
	for _, most := range wrong {
		refused("a", most, api.ErrArg)
		refused("new", most, api.ErrArg)
	}
	// What was refused isn't among those of which something was said.
	for i := range 15 {
		set(t, l, m, strconv.Itoa(i), i)
	}
	if len(m.said) != 16 {
		t.Fatal(len(m.said))
	}
	for _, most := range wrong {
		refused("a", most, api.ErrArg)
		refused("new", most, api.ErrArg)
	}
	for _, most := range []int{0, 3, 128} {
		refused("new", most, api.ErrFull)
		refused("", most, api.ErrFull)
		set(t, l, m, "a", most)
		set(t, l, m, "14", most)
		holds(t, "said again", l, m)
	}
}

// TestFull: just what Set said counts for ErrFull, also what is as by default, and of tenants that have none; it is never unsaid.
func TestFull(t *testing.T) {
	l, m := fresh(t, 2)
	for i := range 100 {
		take(t, l, m, "taker "+strconv.Itoa(i))
		give(t, l, m, "giver "+strconv.Itoa(i))
	}
	holds(t, "100 that have some", l, m)
	for i := range 16 {
		// 8 of which there is one already, and 8 others.
		name := "taker " + strconv.Itoa(i)
		if i%2 == 0 {
			name = "other " + strconv.Itoa(i)
		}
		want(t, "Set "+name, l.Set(name, i%4), api.OK)
		m.set(name, i%4)
		set(t, l, m, name, 2)
		holds(t, "said", l, m, name)
	}
	want(t, "the 17th", l.Set("taker 0", 2), api.ErrFull)
	for i := range 100 {
		give(t, l, m, "taker "+strconv.Itoa(i))
	}
	if all := collect(l.All()); len(all) != 0 {
		t.Error(all)
	}
	want(t, "the 17th, when all was given", l.Set("taker 0", 2), api.ErrFull)
	// Who can't be told otherwise has what each may have.
	for range 3 {
		take(t, l, m, "taker 0")
		take(t, l, m, "taker 1")
		take(t, l, m, "new")
	}
	holds(t, "full", l, m, "taker 0")
}

// TestLess: who may have less than it has keeps it, and takes none until it has fewer than it may.
func TestLess(t *testing.T) {
	for has := 0; has <= 6; has++ {
		for most := 0; most <= 6; most++ {
			l, m := fresh(t, 6)
			for range has {
				take(t, l, m, "a")
			}
			set(t, l, m, "a", most)
			holds(t, "less", l, m, "a")
			if l.Has("a") != has {
				t.Fatal(has, most, l.Has("a"))
			}
			for n := has; n >= 0; n-- {
				c, d := l.Copy(), m.copy()
				e := api.ErrQuota
				if n < most {
					e = api.OK
				}
				want(t, "Take, that has "+strconv.Itoa(n)+" of "+strconv.Itoa(most), c.Take("a"), e)
				d.take("a")
				holds(t, "taken", c, d, "a")
				give(t, l, m, "a")
				holds(t, "given", l, m, "a")
			}
			want(t, "Give of none", l.Give("a"), api.ErrNone)
		}
	}
}

func TestGive(t *testing.T) {
	l, m := fresh(t, 4)
	want(t, "Give of nobody", l.Give("a"), api.ErrNone)
	set(t, l, m, "b", 4)
	want(t, "Give of one that has none", l.Give("b"), api.ErrNone)
	holds(t, "refused", l, m, "a", "b")
	for range 3 {
		take(t, l, m, "a")
		take(t, l, m, "b")
	}
	want(t, "Give of another one", l.Give("c"), api.ErrNone)
	want(t, "Give of the empty one", l.Give(""), api.ErrNone)
	for _, e := range []api.Errno{api.OK, api.OK, api.OK, api.ErrNone, api.ErrNone} {
		want(t, "Give", l.Give("a"), e)
		m.give("a")
		holds(t, "given", l, m, "a")
	}
	// What was said stays, when all was given.
	set(t, l, m, "b", 1)
	for range 5 {
		give(t, l, m, "b")
	}
	if l.May("b") != 1 || l.Has("b") != 0 {
		t.Error(l.May("b"), l.Has("b"))
	}
	for range 3 {
		take(t, l, m, "b")
	}
	holds(t, "taken again", l, m)
}

// TestTexts: a tenant is any text; they rise byte by byte.
func TestTexts(t *testing.T) {
	long := strings.Repeat("n", 100000)
	tenants := []string{"b", "", "a", "ab", "aa", "A", "\xff", "a\x00", "\x00", " ", "\xff\xfe", "ä", "z", "10", "9", long + "n", long, "日", "a.1"}
	l, m := fresh(t, 3)
	for i, tenant := range tenants {
		if i < 16 {
			set(t, l, m, tenant, i%3+1)
		}
		for range 4 {
			take(t, l, m, tenant)
		}
		holds(t, "texts", l, m, tenants...)
	}
	all := collect(l.All())
	if len(all) != len(tenants) {
		t.Fatal(len(all))
	}
	for i, x := range all {
		if i > 0 && x.tenant <= all[i-1].tenant {
			t.Errorf("%q behind %q", x.tenant, all[i-1].tenant)
		}
	}
	for _, tenant := range tenants {
		give(t, l, m, tenant)
		holds(t, "given", l, m, tenants...)
	}
}

// step is something that is done to a ledger and to its model.
type step func(t *testing.T, l *quota.Ledger, m *model)

// TestSteps does all short rows of some steps.
func TestSteps(t *testing.T) {
	var steps []step
	for _, tenant := range []string{"a", "b"} {
		steps = append(steps,
			func(t *testing.T, l *quota.Ledger, m *model) { take(t, l, m, tenant) },
			func(t *testing.T, l *quota.Ledger, m *model) { give(t, l, m, tenant) })
		for _, most := range []int{-1, 0, 1, 2} {
			steps = append(steps, func(t *testing.T, l *quota.Ledger, m *model) { set(t, l, m, tenant, most) })
		}
	}
	var do func(l *quota.Ledger, m *model, left int)
	do = func(l *quota.Ledger, m *model, left int) {
		for _, s := range steps {
			l, m := l.Copy(), m.copy()
			s(t, l, m)
			holds(t, "steps", l, m, "a", "b")
			if left > 1 {
				do(l, m, left-1)
			}
		}
	}
	depth := 5
	if testing.Short() {
		depth = 4
	}
	for _, each := range []int{0, 1, 2} {
		l, m := fresh(t, each)
		do(l, m, depth)
	}
}

// TestChance does long rows of steps by chance.
func TestChance(t *testing.T) {
	for seed := range int64(80) {
		r := rand.New(rand.NewSource(seed))
		tenants := 1 + r.Intn(30)
		most := 1 + r.Intn(1<<r.Intn(8))
		l, m := fresh(t, r.Intn(most+1))
		for range 1500 {
			tenant := strconv.Itoa(r.Intn(tenants))
			switch k := r.Intn(20); {
			case k < 11:
				take(t, l, m, tenant)
			case k < 17:
				give(t, l, m, tenant)
			case k < 18:
				set(t, l, m, tenant, r.Intn(most+1))
			case k < 19:
				set(t, l, m, tenant, r.Intn(300)-90)
			default:
				l = l.Copy()
			}
			if n, want := l.Has(tenant), m.has(tenant); n != want {
				t.Fatalf("seed %d: Has(%q): %d, not %d", seed, tenant, n, want)
			}
			if r.Intn(20) == 0 {
				holds(t, "chance", l, m, tenant)
			}
		}
		holds(t, "chance", l, m)
	}
}

func TestNil(t *testing.T) {
	var l *quota.Ledger
	for _, tenant := range []string{"", "a"} {
		for _, most := range []int{math.MinInt, -1, 0, 5, 128, 129, math.MaxInt} {
			want(t, "Set", l.Set(tenant, most), api.ErrArg)
		}
		want(t, "Take", l.Take(tenant), api.ErrArg)
		want(t, "Give", l.Give(tenant), api.ErrArg)
		if l.Has(tenant) != 0 || l.May(tenant) != 0 {
			t.Error("a nil ledger has something:", l.Has(tenant), l.May(tenant))
		}
	}
	for tenant, n := range l.All() {
		t.Error("All:", tenant, n)
	}
	l.All()(nil)
	if l.Copy() != nil {
		t.Error("Copy")
	}
}

// TestZero: a ledger that isn't of New is one where each may have none.
func TestZero(t *testing.T) {
	for _, s := range []step{
		func(t *testing.T, l *quota.Ledger, m *model) { take(t, l, m, "a") },
		func(t *testing.T, l *quota.Ledger, m *model) { give(t, l, m, "a") },
		func(t *testing.T, l *quota.Ledger, m *model) { set(t, l, m, "a", 2); take(t, l, m, "a") },
	} {
		l, m := &quota.Ledger{}, newModel(0)
		s(t, l, m)
		holds(t, "zero", l, m, "a")
		l, m = (&quota.Ledger{}).Copy(), newModel(0)
		s(t, l, m)
		holds(t, "zero, copied", l, m, "a")
	}
}

func TestCopy(t *testing.T) {
	build := func() (*quota.Ledger, *model) {
		l, m := fresh(t, 2)
		set(t, l, m, "a", 3)
		for i := range 14 {
			set(t, l, m, strconv.Itoa(i), 1)
		}
		take(t, l, m, "a")
		take(t, l, m, "b")
		take(t, l, m, "b")
		return l, m
	}
	for _, s := range []step{
		func(t *testing.T, l *quota.Ledger, m *model) { take(t, l, m, "a") },
		func(t *testing.T, l *quota.Ledger, m *model) { take(t, l, m, "b") },
		func(t *testing.T, l *quota.Ledger, m *model) { take(t, l, m, "c") },
		func(t *testing.T, l *quota.Ledger, m *model) { give(t, l, m, "a") },
		func(t *testing.T, l *quota.Ledger, m *model) { give(t, l, m, "b") },
		func(t *testing.T, l *quota.Ledger, m *model) { give(t, l, m, "c") },
		func(t *testing.T, l *quota.Ledger, m *model) { set(t, l, m, "a", 0) },
		func(t *testing.T, l *quota.Ledger, m *model) { set(t, l, m, "b", 128) },
		func(t *testing.T, l *quota.Ledger, m *model) { set(t, l, m, "c", 2) },
	} {
		l, m := build()
		c, n := l.Copy(), m.copy()
		holds(t, "copy", c, n, "a", "b", "c")
		s(t, l, m)
		holds(t, "changed", l, m, "a", "b", "c")
		holds(t, "copy of one that was changed", c, n, "a", "b", "c")
		// The copy has as much room as the other one had.
		set(t, c, n, "d", 1)
		set(t, c, n, "e", 1)
		holds(t, "filled copy", c, n, "a", "b", "c")

		l, m = build()
		c, n = l.Copy(), m.copy()
		s(t, c, n)
		holds(t, "copy that was changed", c, n, "a", "b", "c")
		holds(t, "whose copy was changed", l, m, "a", "b", "c")
		set(t, l, m, "d", 1)
		set(t, l, m, "e", 1)
		holds(t, "whose copy was changed, filled", l, m, "a", "b", "c")
	}
	// One of New, without anything, too.
	l, m := fresh(t, 1)
	c, n := l.Copy(), m.copy()
	for range 2 {
		take(t, c, n, "a")
		set(t, c, n, "b", 5)
		holds(t, "copy of a new one", c, n, "a", "b")
		holds(t, "new one", l, m, "a", "b")
	}
}

func TestAllIterator(t *testing.T) {
	l, m := fresh(t, 9)
	for i, tenant := range []string{"d", "b", "f", "a", "c", "e"} {
		for range i + 1 {
			take(t, l, m, tenant)
		}
	}
	set(t, l, m, "none", 5)
	wanted := []pair{{"a", 4}, {"b", 2}, {"c", 5}, {"d", 1}, {"e", 6}, {"f", 3}}
	all := l.All()
	for range 3 {
		if got := collect(all); !slices.Equal(got, wanted) {
			t.Fatal(got)
		}
	}
	i := 0
	for tenant, n := range all {
		if (pair{tenant, n}) != wanted[i] || i > 2 {
			t.Fatal(tenant, n, i)
		}
		if i++; i == 3 {
			break
		}
	}
	all(nil)
	// Changed while it is gone through: it tells all that there were.
	var got []pair
	for tenant, n := range all {
		for range n {
			give(t, l, m, tenant)
		}
		take(t, l, m, "z")
		give(t, l, m, "f")
		got = append(got, pair{tenant, n})
	}
	if !slices.Equal(got, wanted) {
		t.Fatal(got)
	}
	holds(t, "changed while told", l, m, "a", "none")
}

// TestFast: many tenants, taken from and given to many times, end in a short while.
func TestFast(t *testing.T) {
	begin := time.Now()
	l, _ := fresh(t, api.MaxJobs)
	const many = 100000
	for i := range many {
		for range 3 {
			l.Take(strconv.Itoa(i))
		}
	}
	n, last := 0, ""
	for tenant, k := range l.All() {
		if k != 3 || n > 0 && tenant <= last {
			t.Fatal(tenant, k, last)
		}
		n, last = n+1, tenant
	}
	if n != many {
		t.Error(n)
	}
	for i := range many {
		for range 3 {
			l.Give(strconv.Itoa(i))
		}
	}
	if all := collect(l.All()); len(all) != 0 {
		t.Error(len(all))
	}
	for range 1000000 {
		l.Take("a")
		l.Give("a")
	}
	if d := time.Since(begin); d > 20*time.Second {
		t.Error("it took", d)
	}
}
