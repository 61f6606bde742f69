package spec_test

import (
	"fmt"
	"math"
	"math/rand"
	"regexp"
	"slices"
	"strconv"
	"strings"
	"testing"
	"time"

	"compline/api"
	"compline/spec"
)

const span = 1 << 20 // the greatest one

// form is that of a name, by the words of chapter 14.
var form = regexp.MustCompile(`\A[a-z][a-z0-9.\-]{0,23}\z`)

// crons is what chapter 7 says of expressions.
var crons = map[string]api.Errno{
	"* * * * *":               api.OK,
	"0 3 * * *":               api.OK,
	"*/30 12 1 jan-mar mon":   api.OK,
	"0 0 30 2 *":              api.OK, // it names no tick, and is an expression all the same
	" ":                       api.ErrForm,
	"-":                       api.ErrForm,
	"* * * *":                 api.ErrForm,
	"* * * * * *":             api.ErrForm,
	"* * * * MON":             api.ErrForm,
	"60 * * * *":              api.ErrRange,
	"* * 0 * *":               api.ErrRange,
	"5-4 * * * *":             api.ErrRange,
	strings.Repeat("*", 129):  api.ErrLong,
	strings.Repeat("\xff", 9): api.ErrForm,
}

// once is a job's spec that may be, of all fields some.
func once() api.Spec {
	return api.Spec{Name: "load", Tenant: "ops", Priority: 1, Delay: 4, Deps: []string{"a", "b"}, Base: 2, Cap: 30, Attempts: 3, Lease: 5}
}

// often is a template that may be.
func often() api.Spec {
	return api.Spec{Name: "nightly", Tenant: "ops", Priority: 2, Base: 2, Cap: 30, Attempts: 3, Lease: 5, Cron: "0 3 * * *", Catch: 2}
}

// rises is whether texts rise.
func rises(l []string) bool {
	return slices.IsSorted(l) && len(slices.Compact(slices.Clone(l))) == len(l)
}

// outside is whether a number is outside its bounds.
func outside[T int | int64](n, low, high T) bool { return n < low || n > high }

// model is Check by the words of chapter 14: the first line that holds.
func model(s api.Spec) api.Errno {
	cron, template := api.OK, s.Cron != ""
	if template {
		var known bool
		if cron, known = crons[s.Cron]; !known {
			panic("of this expression the test knows nothing: " + s.Cron)
		}
	}
	for _, line := range []struct {
		holds bool
		e     api.Errno
	}{
		{!form.MatchString(s.Name), api.ErrName},
		{!form.MatchString(s.Tenant), api.ErrName},
		{slices.ContainsFunc(s.Deps, func(d string) bool { return !form.MatchString(d) }), api.ErrName},
		{outside(s.Priority, 0, 3), api.ErrRange},
		{outside(s.Delay, 0, span), api.ErrRange},
		{outside(s.Base, 0, span), api.ErrRange},
		{outside(s.Cap, 0, span), api.ErrRange},
		{outside(s.Lease, 1, span), api.ErrRange},
		{outside(s.Attempts, 1, 16), api.ErrRange},
		{outside(s.Catch, 0, 16), api.ErrRange},
		{len(s.Deps) > 8, api.ErrRange},
		{!rises(s.Deps), api.ErrRange},
		{s.Catch != 0 && !template, api.ErrArg},
		{cron != api.OK, cron},
		{s.Catch == 0 && template, api.ErrRange},
		{template && len(s.Deps) > 0, api.ErrArg},
		{template && s.Delay != 0, api.ErrArg},
		{template && len(s.Name) > 16, api.ErrArg},
	} {
		if line.holds {
			return line.e
		}
	}
	return api.OK
}

// checks holds Check of a spec against an error.
func checks(t *testing.T, s api.Spec, want api.Errno) {
	t.Helper()
	if e := spec.Check(s); e != want {
		t.Errorf("Check(%.2000s): %d, not %d", fmt.Sprintf("%#v", s), e, want)
	}
}

func TestExample(t *testing.T) {
	if !spec.Name("a.1") || spec.Name(".a") {
		t.Error(spec.Name("a.1"), spec.Name(".a"))
	}
}

// names holds Name of a text against what is promised, and Check of a spec with it in each place of a name.
func names(t *testing.T, s string, want bool) {
	t.Helper()
	if got := spec.Name(s); got != want {
		t.Errorf("Name(%.2000q): %v", s, got)
	}
	e := api.ErrName
	if want {
		e = api.OK
	}
	a, b, c := once(), once(), once()
	a.Name, b.Tenant, c.Deps = s, s, []string{s}
	for _, x := range []api.Spec{a, b, c} {
		checks(t, x, e)
	}
}

func TestName(t *testing.T) {
	for _, s := range []string{"a", "z", "aa", "a0", "a9", "a-", "a.", "a.1", "nightly.12", "a--", "a..", "a-.0z", "z9.-", strings.Repeat("a", 23), strings.Repeat("z", 24), "a" + strings.Repeat(".", 23), "a" + strings.Repeat("9", 23)} {
		names(t, s, true)
	}
	for _, s := range []string{
		"", " ", "-", ".", "0", "9", ".a", "-a", "1a", "A", "aA", "Aa", "a b", " a", "a ", "a\n", "\na", "a\x00", "\x00", "a_", "a/", "a,", "a:", "a@", "a[", "a`", "a{", "a*",
		strings.Repeat("a", 25), strings.Repeat("a", 26), strings.Repeat("a", 24) + "\n", strings.Repeat("a", 256), strings.Repeat("a", 1<<20),
		"ä", "aä", "a\u0308", "é", "日", "a日", "\xff", "a\xff", "a\xc3", "\xe6\x97", "a\xed\xa0\x80", "\ufffd", "a\ufffd",
		"\u0161", "a\u0161", "\u0130", "\u0131", "\u212a", "\uff41", "a\uff41", "a\uff10", "a\u0660", "\U00010061", "a\U00010030", "a\u2010", "a\u00ad", "\U0010ffff",
	} {
		names(t, s, false)
	}
}

// TestNameBytes: each one and two bytes, each byte at each place, and each sign behind a letter.
func TestNameBytes(t *testing.T) {
	for a := range 256 {
		s := string([]byte{byte(a)})
		names(t, s, form.MatchString(s))
		for b := range 256 {
			s := string([]byte{byte(a), byte(b)})
			if spec.Name(s) != form.MatchString(s) {
				t.Errorf("Name(%q)", s)
			}
		}
	}
	for n := 1; n <= 26; n++ {
		for at := range n {
			for c := range 256 {
				b := []byte(strings.Repeat("m", n))
				b[at] = byte(c)
				if s := string(b); spec.Name(s) != form.MatchString(s) {
					t.Errorf("Name(%q)", s)
				}
			}
		}
	}
	for r := range rune(0x110000) {
		if s := "a" + string(r); spec.Name(s) != form.MatchString(s) {
			t.Errorf("Name(%q)", s)
		}
		if s := string(r); spec.Name(s) != form.MatchString(s) {
			t.Errorf("Name(%q)", s)
		}
	}
}

func TestCheck(t *testing.T) {
	checks(t, once(), api.OK)
	checks(t, often(), api.OK)
	checks(t, api.Spec{Name: "a", Tenant: "a", Lease: 1, Attempts: 1}, api.OK)
	checks(t, api.Spec{}, api.ErrName)
	checks(t, api.Spec{Name: "a", Tenant: "a"}, api.ErrRange)
	// Of bounds each number has its own alone: a cap may be below its base.
	s := once()
	s.Base, s.Cap = span, 0
	checks(t, s, api.OK)
	// It may be called as its tenant is, and as one on which it stands.
	s.Name, s.Tenant, s.Deps = "a", "a", []string{"a"}
	checks(t, s, api.OK)
}

// TestBounds: each number at the ends of its bounds, and just beyond, of a job and of a template.
func TestBounds(t *testing.T) {
	ends := []int64{math.MinInt64, math.MinInt64 + 1, math.MinInt32, -span, -256, -2, -1, 0, 1, 2, 3, 4, 5, 15, 16, 17, 18, 255, 256, 257, span - 1, span, span + 1, 1 << 21, 1<<32 - 1, 1 << 32, 1<<32 + 1, 1<<32 + 3, 1 << 40, math.MaxInt64 - 1, math.MaxInt64}
	for _, field := range []struct {
		name                  string
		set                   func(s *api.Spec, n int64)
		low, high             int64
		templateLow, template int64
	}{
		{"Priority", func(s *api.Spec, n int64) { s.Priority = int(n) }, 0, 3, 0, 3},
		{"Delay", func(s *api.Spec, n int64) { s.Delay = n }, 0, span, 0, 0},
		{"Base", func(s *api.Spec, n int64) { s.Base = n }, 0, span, 0, span},
		{"Cap", func(s *api.Spec, n int64) { s.Cap = n }, 0, span, 0, span},
		{"Lease", func(s *api.Spec, n int64) { s.Lease = n }, 1, span, 1, span},
		{"Attempts", func(s *api.Spec, n int64) { s.Attempts = int(n) }, 1, 16, 1, 16},
		{"Catch", func(s *api.Spec, n int64) { s.Catch = int(n) }, 0, 0, 1, 16},
	} {
		for _, n := range ends {
			s := once()
			field.set(&s, n)
			if may := !outside(n, field.low, field.high); may != (spec.Check(s) == api.OK) {
				t.Errorf("%s %d: %d", field.name, n, spec.Check(s))
			}
			checks(t, s, model(s))
			s = often()
			field.set(&s, n)
			if may := !outside(n, field.templateLow, field.template); may != (spec.Check(s) == api.OK) {
				t.Errorf("%s %d of a template: %d", field.name, n, spec.Check(s))
			}
			checks(t, s, model(s))
		}
	}
}

// some is so many names that rise.
func some(n int) []string {
	var l []string
	for i := range n {
		l = append(l, "n"+strconv.Itoa(100000+i))
	}
	return l
}

func TestDeps(t *testing.T) {
	with := func(want api.Errno, deps ...string) {
		t.Helper()
		s := once()
		s.Deps = deps
		checks(t, s, want)
	}
	for n := range 9 {
		with(api.OK, some(n)...)
	}
	for _, n := range []int{9, 10, 16, 255, 256, 264, 10000} {
		with(api.ErrRange, some(n)...)
		with(api.ErrName, append(some(n), "A")...)
	}
	with(api.OK, []string{}...)
	with(api.OK, "a-", "a.", "a0", "a1", "a9", "aa", "az", "b")
	with(api.OK, "a", "a-", "a-a", "a.", "aa")
	with(api.OK, "a10", "a9")
	with(api.ErrRange, "a9", "a10")
	with(api.ErrRange, "b", "a")
	with(api.ErrRange, "a", "a")
	with(api.ErrRange, "aa", "a")
	with(api.ErrRange, "a.", "a-")
	with(api.ErrRange, "a0", "a.")
	with(api.ErrRange, "aa", "a9")
	with(api.ErrName, "")
	with(api.ErrName, "a", "")
	with(api.ErrName, "b", "A")
	with(api.ErrName, "a", "a b")
	// Of any place: one that is like the one ahead, and one that is below it; and one that is no name.
	for n := 2; n <= 8; n++ {
		for at := range n {
			l := some(n)
			if at > 0 {
				l[at] = l[at-1]
				with(api.ErrRange, l...)
				l[at] = "m"
				with(api.ErrRange, l...)
			}
			l[at] = "n_"
			with(api.ErrName, l...)
		}
	}
}

func TestCron(t *testing.T) {
	for text, e := range crons {
		s := often()
		s.Cron = text
		checks(t, s, e)
		// Its error stands ahead of what is said of a template, and behind names and bounds.
		s.Catch = 0
		s.Deps, s.Delay, s.Name = []string{"a"}, 1, strings.Repeat("a", 17)
		if e == api.OK {
			checks(t, s, api.ErrRange)
		} else {
			checks(t, s, e)
		}
		s.Catch = 17
		checks(t, s, api.ErrRange)
		s.Tenant = ""
		checks(t, s, api.ErrName)
	}
	s := often()
	s.Cron = ""
	checks(t, s, api.ErrArg)
	s.Catch = 0
	checks(t, s, api.OK)
	s = often()
	s.Catch = 0
	checks(t, s, api.ErrRange)
	s = often()
	s.Deps = []string{}
	checks(t, s, api.OK)
	s.Deps = []string{"a"}
	checks(t, s, api.ErrArg)
	s = often()
	for _, delay := range []int64{1, 2, span} {
		s.Delay = delay
		checks(t, s, api.ErrArg)
	}
	for n := 1; n <= 24; n++ {
		s := often()
		s.Name, s.Tenant = strings.Repeat("a", n), strings.Repeat("t", 24)
		if n <= 16 {
			checks(t, s, api.OK)
		} else {
			checks(t, s, api.ErrArg)
		}
		s.Cron, s.Catch = "", 0
		checks(t, s, api.OK)
	}
}

// TestOrder holds each of some faults of a field beside each of those of all others against the model.
func TestOrder(t *testing.T) {
	type change func(s *api.Spec)
	var names, deps, delays, expressions, catches []change
	for _, name := range []string{strings.Repeat("a", 16), strings.Repeat("a", 17), "", strings.Repeat("a", 25)} {
		names = append(names, func(s *api.Spec) { s.Name = name })
	}
	for _, l := range [][]string{nil, {"a"}, {"b", "a"}, {"b", "A"}, some(9), append(some(9), "")} {
		deps = append(deps, func(s *api.Spec) { s.Deps = l })
	}
	for _, n := range []int64{-1, 0, 1, span + 1} {
		delays = append(delays, func(s *api.Spec) { s.Delay = n })
	}
	for _, text := range []string{"", "* * * * *", "60 * * * *", "* * * *", strings.Repeat("*", 129)} {
		expressions = append(expressions, func(s *api.Spec) { s.Cron = text })
	}
	for _, n := range []int{-1, 0, 1, 16, 17} {
		catches = append(catches, func(s *api.Spec) { s.Catch = n })
	}
	none := func(s *api.Spec) {}
	tenants := []change{none, func(s *api.Spec) { s.Tenant = "T" }}
	numbers := []change{
		none,
		func(s *api.Spec) { s.Priority = 4 },
		func(s *api.Spec) { s.Base = -1 },
		func(s *api.Spec) { s.Cap = span + 1 },
		func(s *api.Spec) { s.Attempts = 0 },
		func(s *api.Spec) { s.Lease = 0 },
	}
	var all func(s api.Spec, left [][]change)
	all = func(s api.Spec, left [][]change) {
		if len(left) == 0 {
			checks(t, s, model(s))
			return
		}
		for _, c := range left[0] {
			s := s
			c(&s)
			all(s, left[1:])
		}
	}
	all(api.Spec{Tenant: "t", Attempts: 1, Lease: 1}, [][]change{names, tenants, numbers, deps, delays, expressions, catches})
}

// TestCheckChance holds specs by chance, most of which may nearly be, against the model.
func TestCheckChance(t *testing.T) {
	r := rand.New(rand.NewSource(14))
	var expressions []string
	for text := range crons {
		expressions = append(expressions, text)
	}
	slices.Sort(expressions)
	name := func() string {
		const signs = "amz09-."
		b := []byte{"az"[r.Intn(2)]}
		for range r.Intn(20) {
			b = append(b, signs[r.Intn(len(signs))])
		}
		if r.Intn(40) == 0 {
			b[r.Intn(len(b))] = byte(r.Intn(256))
		}
		return string(b)
	}
	number := func(low, high int64) int64 {
		switch r.Intn(60) {
		case 0:
			return int64(r.Uint64())
		case 1:
			return low - 1
		case 2:
			return high + 1
		case 3, 4, 5:
			return low
		case 6, 7, 8:
			return high
		}
		return low + r.Int63n(high-low+1)
	}
	count := map[api.Errno]int{}
	for range 200000 {
		s := api.Spec{Name: name(), Tenant: name(), Priority: int(number(0, 3)), Base: number(0, span), Cap: number(0, span), Attempts: int(number(1, 16)), Lease: number(1, span)}
		if r.Intn(2) == 0 {
			s.Cron = expressions[r.Intn(len(expressions))]
		}
		if r.Intn(4) == 0 || s.Cron == "" {
			s.Delay = number(0, span)
			for range r.Intn(10) {
				s.Deps = append(s.Deps, name())
			}
		}
		if r.Intn(4) > 0 {
			slices.Sort(s.Deps)
		}
		if r.Intn(20) == 0 || s.Cron != "" {
			s.Catch = int(number(0, 16))
		}
		want := model(s)
		count[want]++
		checks(t, s, want)
	}
	for _, e := range []api.Errno{api.OK, api.ErrArg, api.ErrForm, api.ErrRange, api.ErrLong, api.ErrName} {
		if count[e] < 500 {
			t.Error("too few of", int(e), count[e])
		}
	}
}

func TestFinal(t *testing.T) {
	for state, want := range map[int]bool{
		api.Waiting: false, api.Delayed: false, api.Ready: false, api.Leased: false, api.Done: true, api.Dead: true, api.Cancelled: true, api.Template: false, api.States: false,
		-1: false, -4: false, 9: false, 4 + 256: false, 4 + 1<<32: false, math.MinInt: false, math.MinInt + 4: false, math.MaxInt: false,
	} {
		if got := spec.Final(state); got != want {
			t.Errorf("Final(%d): %v", state, got)
		}
	}
}

// TestFast: long texts and rows are told in a short while.
func TestFast(t *testing.T) {
	begin := time.Now()
	long := strings.Repeat("a", 1<<26)
	s := once()
	s.Deps = some(1 << 18)
	for range 20 {
		names(t, long, false)
		checks(t, s, api.ErrRange)
	}
	if d := time.Since(begin); d > 20*time.Second {
		t.Error("it took", d)
	}
}
