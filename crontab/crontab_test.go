package crontab_test

import (
	"math"
	"math/rand"
	"reflect"
	"regexp"
	"slices"
	"strconv"
	"strings"
	"testing"
	"time"

	"compline/api"
	"compline/cron"
	"compline/crontab"
	"compline/spec"
)

const (
	day  = 24 * 60 // ticks
	year = 365 * day
	last = api.MaxTick // 2092528-03-09 12:16, a Tuesday
	most = 1 << 20     // that are counted as missed
)

// zero is the time of tick 0, by another calendar.
var zero = time.Date(2000, 1, 1, 0, 0, 0, 0, time.UTC).Unix()

// tick is that of a moment, written out.
func tick(t *testing.T, s string) int64 {
	t.Helper()
	m, f := time.Parse("2006-01-02 15:04", s)
	if f != nil {
		t.Fatal(f)
	}
	return (m.Unix() - zero) / 60
}

// template is one that may be.
func template(text string, catch int) api.Spec {
	return api.Spec{Name: "nightly", Tenant: "ops", Attempts: 2, Lease: 5, Cron: text, Catch: catch}
}

// full is one each of whose fields that may have a value has one of its own.
func full() api.Spec {
	return api.Spec{Name: "a.b-1", Tenant: "c.d", Priority: 3, Deps: make([]string, 0, 8), Base: 4, Cap: 50, Attempts: 6, Lease: 7, Cron: "*/7 * 1-20 jan,mar mon", Catch: 8}
}

// refused are specs that are no templates, or that may not be, each for one reason.
func refused() []api.Spec {
	changes := []func(s *api.Spec){
		func(s *api.Spec) { s.Cron, s.Catch = "", 0 }, // a spec that may be, but no template
		func(s *api.Spec) { s.Cron, s.Catch, s.Delay, s.Deps = "", 0, 3, []string{"a", "b"} },
		func(s *api.Spec) { *s = api.Spec{} },
		func(s *api.Spec) { s.Cron = "" },
		func(s *api.Spec) { s.Name = "" },
		func(s *api.Spec) { s.Name = ".a" },
		func(s *api.Spec) { s.Name = "A" },
		func(s *api.Spec) { s.Name = strings.Repeat("a", 17) },
		func(s *api.Spec) { s.Name = strings.Repeat("a", 25) },
		func(s *api.Spec) { s.Tenant = "" },
		func(s *api.Spec) { s.Tenant = "1" },
		func(s *api.Spec) { s.Tenant = strings.Repeat("a", 25) },
		func(s *api.Spec) { s.Priority = -1 },
		func(s *api.Spec) { s.Priority = 4 },
		func(s *api.Spec) { s.Delay = -1 },
		func(s *api.Spec) { s.Delay = 1 },
		func(s *api.Spec) { s.Delay = 1<<20 + 1 },
		func(s *api.Spec) { s.Deps = []string{"a"} },
		func(s *api.Spec) { s.Deps = []string{""} },
		func(s *api.Spec) { s.Deps = strings.Split("a,b,c,d,e,f,g,h,i", ",") },
		func(s *api.Spec) { s.Base = -1 },
		func(s *api.Spec) { s.Base = 1<<20 + 1 },
		func(s *api.Spec) { s.Cap = -1 },
		func(s *api.Spec) { s.Cap = 1<<20 + 1 },
		func(s *api.Spec) { s.Attempts = 0 },
		func(s *api.Spec) { s.Attempts = 17 },
		func(s *api.Spec) { s.Lease = 0 },
		func(s *api.Spec) { s.Lease = 1<<20 + 1 },
		func(s *api.Spec) { s.Catch = 0 },
		func(s *api.Spec) { s.Catch = -1 },
		func(s *api.Spec) { s.Catch = 17 },
		func(s *api.Spec) { s.Catch = math.MaxInt },
		func(s *api.Spec) { s.Catch = math.MinInt },
		func(s *api.Spec) { s.Cron = " " },
		func(s *api.Spec) { s.Cron = "* * * *" },
		func(s *api.Spec) { s.Cron = "60 * * * *" },
		func(s *api.Spec) { s.Cron = "5-4 * * * *" },
		func(s *api.Spec) { s.Cron = strings.Repeat("0,", 65) + "0 * * * *" },
	}
	var l []api.Spec
	for _, change := range changes {
		s := template("* * * * *", 2)
		change(&s)
		l = append(l, s)
	}
	return l
}

// walk is all ticks that an expression names above one, up to another one, each tick asked for itself.
func walk(t *testing.T, text string, after, to int64) []int64 {
	t.Helper()
	x, e := cron.Parse(text)
	if e != api.OK {
		t.Fatalf("Parse(%q): %d", text, e)
	}
	var l []int64
	for at := after + 1; at <= to; at++ {
		if x.At(at) {
			l = append(l, at)
		}
	}
	return l
}

// due holds Due against what it has to answer.
func due(t *testing.T, s api.Spec, after, to int64, want []int64, missed int) {
	t.Helper()
	l, n, e := crontab.Due(s, after, to)
	if e != api.OK || !slices.Equal(l, want) || n != missed {
		t.Fatalf("Due(%q, catch %d, %d, %d): %v, %d, %d, not %v, %d", s.Cron, s.Catch, after, to, l, n, e, want, missed)
	}
}

// holds holds Due against all ticks of a span, each asked for itself.
func holds(t *testing.T, s api.Spec, after, to int64) {
	t.Helper()
	all := walk(t, s.Cron, after, to)
	first := min(len(all), s.Catch)
	due(t, s, after, to, all[:first], min(len(all)-first, most))
}

// fails is that Due answers an error, and nothing beside it.
func fails(t *testing.T, s api.Spec, after, to int64, want api.Errno) {
	t.Helper()
	if l, n, e := crontab.Due(s, after, to); e != want || len(l) != 0 || n != 0 {
		t.Errorf("Due(%#v, %d, %d): %v, %d, %d, not %d", s, after, to, l, n, e, want)
	}
}

func TestExample(t *testing.T) {
	due(t, template("* * * * *", 2), 10, 15, []int64{11, 12}, 3)
}

// TestDue: by ordinary expressions, up to each tick about the first ones.
func TestDue(t *testing.T) {
	s := template("30 4 * * *", 3)
	due(t, s, 0, 5*day, []int64{270, day + 270, 2*day + 270}, 2)
	due(t, s, 0, 0, nil, 0)
	due(t, s, 0, 269, nil, 0)
	due(t, s, 0, 270, []int64{270}, 0)
	due(t, s, 269, 270, []int64{270}, 0)
	due(t, s, 270, 270, nil, 0)
	due(t, s, 270, day+269, nil, 0)
	due(t, s, 270, day+270, []int64{day + 270}, 0)
	due(t, s, 0, 2*day+269, []int64{270, day + 270}, 0)
	due(t, s, 0, 2*day+270, []int64{270, day + 270, 2*day + 270}, 0)
	due(t, s, 0, 3*day+269, []int64{270, day + 270, 2*day + 270}, 0)
	due(t, s, 0, 3*day+270, []int64{270, day + 270, 2*day + 270}, 1)
	// Tick 0 is above no tick.
	due(t, template("0 0 1 1 *", 1), 0, year, nil, 0)
	due(t, template("0 0 29 2 *", 2), 0, tick(t, "2012-02-29 00:00"), []int64{tick(t, "2000-02-29 00:00"), tick(t, "2004-02-29 00:00")}, 2)
	due(t, template("0 12 1 * mon", 16), 0, tick(t, "2000-01-31 12:00"), []int64{
		tick(t, "2000-01-01 12:00"), tick(t, "2000-01-03 12:00"), tick(t, "2000-01-10 12:00"), tick(t, "2000-01-17 12:00"), tick(t, "2000-01-24 12:00"), tick(t, "2000-01-31 12:00"),
	}, 0)
}

// TestSpans: all short spans at the beginning, at the end, and about a day's and a month's end, with each Catch.
func TestSpans(t *testing.T) {
	texts := []string{"* * * * *", "*/2 * * * *", "*/3 * * * *", "5,7,58-59 0,12,23 * * *", "0 0 * * *", "59 23 29 2 *", "* * * * sat", "16 12 9 3 tue", "0 0 30 2 *"}
	for _, text := range texts {
		for _, start := range []int64{0, day - 10, tick(t, "2000-02-29 23:50"), last - 20} {
			for after := start; after <= start+20; after++ {
				for to := after; to <= start+20; to++ {
					for catch := range api.MaxCatch {
						holds(t, template(text, catch+1), after, to)
					}
				}
			}
		}
	}
}

// chanceText is an expression by chance.
func chanceText(r *rand.Rand) string {
	field := func(low, high int) string {
		a, b := low+r.Intn(high-low+1), low+r.Intn(high-low+1)
		switch r.Intn(4) {
		case 0:
			return strconv.Itoa(a)
		case 1:
			return strconv.Itoa(min(a, b)) + "-" + strconv.Itoa(max(a, b))
		case 2:
			return "*/" + strconv.Itoa(1+r.Intn(60))
		}
		return "*"
	}
	return strings.Join([]string{field(0, 59), field(0, 23), field(1, 31), field(1, 12), field(0, 7)}, " ")
}

// TestChance: expressions, spans and Catch by chance.
func TestChance(t *testing.T) {
	r := rand.New(rand.NewSource(16))
	rounds := 1500
	if testing.Short() {
		rounds = 150
	}
	for range rounds {
		s := template(chanceText(r), 1+r.Intn(api.MaxCatch))
		after := r.Int63n(last + 1)
		if r.Intn(4) == 0 {
			after = r.Int63n(year)
		}
		to := min(after+r.Int63n(1<<r.Intn(17)), last)
		holds(t, s, after, to)
	}
}

// TestMost: no more than 2^20 are counted behind the first ones.
func TestMost(t *testing.T) {
	for _, catch := range []int{1, 2, 16} {
		s := template("* * * * *", catch)
		for _, after := range []int64{0, 1, 10, last - 2*most} {
			var first []int64
			for i := range int64(catch) {
				first = append(first, after+1+i)
			}
			behind := after + int64(catch)
			due(t, s, after, behind, first, 0)
			due(t, s, after, behind+1, first, 1)
			due(t, s, after, behind+most-1, first, most-1)
			due(t, s, after, behind+most, first, most)
			due(t, s, after, behind+most+1, first, most)
			due(t, s, after, behind+most+int64(catch), first, most)
			due(t, s, after, last, first, most)
		}
	}
	// Leap days: 97 of 400 years, so 2^20 of them don't come about.
	s := template("0 0 29 2 *", 1)
	leaps := 0
	for y := 2000; y <= 2092528; y++ {
		if y%4 == 0 && (y%100 != 0 || y%400 == 0) {
			leaps++
		}
	}
	due(t, s, 0, last, []int64{tick(t, "2000-02-29 00:00")}, leaps-1)
	due(t, template("0 0 30 2 *", 16), 0, last, nil, 0)
	// Days: far more than 2^20 up to the end.
	due(t, template("0 0 * * *", 1), 0, day*(most+1)-1, []int64{day}, most-1)
	due(t, template("0 0 * * *", 1), 0, day*(most+1), []int64{day}, most)
	due(t, template("0 0 * * *", 1), 0, day*(most+2), []int64{day}, most)
	due(t, template("0 0 * * *", 1), 0, last, []int64{day}, most)
}

// TestEnds: ticks at their ends, and beyond them.
func TestEnds(t *testing.T) {
	s := template("* * * * *", 2)
	due(t, s, last, last, nil, 0)
	due(t, s, last-1, last, []int64{last}, 0)
	due(t, s, last-3, last, []int64{last - 2, last - 1}, 1)
	due(t, s, 0, 1, []int64{1}, 0)
	below := []int64{-1, -2, -10, math.MinInt32, -last, math.MinInt64, math.MinInt64 + 1, math.MinInt64 + 11}
	above := []int64{last + 1, last + 2, 2 * last, math.MaxInt64, math.MaxInt64 - 1, 1 << 62}
	for _, at := range append(slices.Clone(below), above...) {
		for _, other := range []int64{0, 1, 10, last - 1, last, at, at + 1, at - 1} {
			fails(t, s, at, other, api.ErrRange)
			fails(t, s, other, at, api.ErrRange)
		}
	}
	for _, x := range [][2]int64{{1, 0}, {5, 4}, {5, 0}, {last, last - 1}, {last, 0}, {1<<32 + 1, 2}} {
		fails(t, s, x[0], x[1], api.ErrRange)
	}
}

// TestRefused: specs that are no templates, whatever else is asked.
func TestRefused(t *testing.T) {
	for _, s := range refused() {
		for _, x := range [][2]int64{{0, 0}, {10, 15}, {0, last}, {5, 4}, {-1, 5}, {0, last + 1}, {math.MinInt64, math.MaxInt64}, {math.MaxInt64, math.MinInt64}} {
			fails(t, s, x[0], x[1], api.ErrArg)
		}
		for _, n := range []int{1, 2, 999999, 0, -1, 1000000} {
			noInstance(t, s, n)
		}
	}
}

// noInstance is that there is none, and nothing beside that.
func noInstance(t *testing.T, s api.Spec, n int) {
	t.Helper()
	if x, e := crontab.Instance(s, n); e != api.ErrArg || !reflect.DeepEqual(x, api.Spec{}) {
		t.Errorf("Instance(%#v, %d): %#v, %d", s, n, x, e)
	}
}

// instance holds one against the words of chapter 16.
func instance(t *testing.T, s api.Spec, n int) {
	t.Helper()
	x, e := crontab.Instance(s, n)
	want := s
	want.Name, want.Cron, want.Catch = s.Name+"."+strconv.Itoa(n), "", 0
	if e != api.OK || !spec.Same(x, want) {
		t.Fatalf("Instance(%#v, %d): %#v, %d", s, n, x, e)
	}
	if e := spec.Check(x); e != api.OK {
		t.Fatalf("Instance(%#v, %d) may not be: %d", s, n, e)
	}
	if name, k, ok := crontab.Of(x.Name); name != s.Name || k != n || !ok {
		t.Fatalf("Of(%q): %q, %d, %v", x.Name, name, k, ok)
	}
}

// numbers are those about the decimal ones' ends, of instances.
func numbers() []int {
	var l []int
	for n := 1; n <= 1000000; n *= 10 {
		l = append(l, n-1, n, n+1, 2*n, 7*n+n/10)
	}
	return slices.DeleteFunc(l, func(n int) bool { return n < 1 || n > 999999 })
}

func TestInstance(t *testing.T) {
	x, e := crontab.Instance(template("30 4 * * *", 3), 12)
	if want := (api.Spec{Name: "nightly.12", Tenant: "ops", Attempts: 2, Lease: 5}); e != api.OK || !reflect.DeepEqual(x, want) {
		t.Errorf("%#v, %d", x, e)
	}
	greatest := api.Spec{Name: strings.Repeat("z", 16), Tenant: strings.Repeat("t", 24), Priority: 3, Base: 1 << 20, Cap: 1 << 20, Attempts: 16, Lease: 1 << 20, Cron: "0 0 30 2 *", Catch: 16}
	for _, s := range []api.Spec{template("* * * * *", 1), full(), greatest} {
		for _, n := range numbers() {
			instance(t, s, n)
		}
		for _, n := range []int{0, -1, -12, 1000000, 1000001, 9999999, 1 << 32, 1<<32 + 1, -1 << 32, 1 - 1<<32, math.MaxInt, math.MinInt, math.MinInt + 1} {
			noInstance(t, s, n)
		}
	}
	// Names with marks and numbers of their own.
	for _, name := range []string{"a", "a.", "a..", "a-", "a1", "a.1", "a.0", "a.1.2", "a-1", "abcdefghijklmnop", "a.345678.9012345"} {
		s := full()
		s.Name = name
		for _, n := range numbers() {
			instance(t, s, n)
		}
	}
}

// TestNumbers: each number that there is.
func TestNumbers(t *testing.T) {
	step := 1
	if testing.Short() {
		step = 997
	}
	for n := 1; n <= 999999; n += step {
		instance(t, full(), n)
	}
}

// form is an instance's name by the words of chapters 14 and 16.
var form = regexp.MustCompile(`^([a-z][a-z0-9.-]{0,15})\.([1-9][0-9]{0,5})$`)

// of holds Of against that.
func of(t *testing.T, name string) {
	t.Helper()
	want, number := "", 0
	parts := form.FindStringSubmatch(name)
	if parts != nil {
		want = parts[1]
		number, _ = strconv.Atoi(parts[2])
	}
	if template, n, ok := crontab.Of(name); template != want || n != number || ok != (parts != nil) {
		t.Fatalf("Of(%q): %q, %d, %v, not %q, %d", name, template, n, ok, want, number)
	}
}

func TestOf(t *testing.T) {
	if template, n, ok := crontab.Of("nightly.12"); template != "nightly" || n != 12 || !ok {
		t.Error(template, n, ok)
	}
	a16, a17 := strings.Repeat("a", 16), strings.Repeat("a", 17)
	for _, name := range []string{
		"", ".", "..", "a", "a.", ".1", "..1", "1", "12", "nightly", "nightly.", "nightly12", "nightly-12",
		"a.1", "a.0", "a.01", "a.00", "a.10", "a.9", "a.99", "a.999999", "a.1000000", "a.0999999", "a.9999999", "a.100000",
		"a.+1", "a.-1", "a.1 ", "a. 1", "a.1\n", "a.1\x00", "a.0x1", "a.1_0", "a.1e3", "a.1.0", "a.1a", "a.a1", "a.1.", "a.1..",
		"a.1.2", "a.01.2", "a..2", "a-.2", "a.b.2", "A.1", "1.1", "-.1", "1a.1", "a_b.1", "a b.1", " a.1", "é.1", "aé.1", "a\xff.1", "a.\xff", "a.１", "a.٣",
		a16 + ".1", a16 + ".999999", a16 + ".1000000", a17 + ".1", a17 + ".999999", a16 + "..1", a16[1:] + "..1", a16[2:] + ".1.1", a16[1:] + ".1.1",
		strings.Repeat("a", 300) + ".1", "a." + strings.Repeat("1", 300), "a." + strings.Repeat("0", 300) + "1",
		"a.4294967297", "a.18446744073709551617", "a.9223372036854775807", "a.9223372036854775808", "a.-9223372036854775808",
		strings.Repeat("a.1", 100000), strings.Repeat(".", 100000), strings.Repeat("9", 100000),
	} {
		of(t, name)
	}
}

// TestTexts: all short texts of some signs.
func TestTexts(t *testing.T) {
	signs := "a.019-A+ \xff"
	length := 6
	if testing.Short() {
		length = 4
	}
	var all func(s string)
	all = func(s string) {
		of(t, s)
		if len(s) == length {
			return
		}
		for i := range len(signs) {
			all(s + signs[i:i+1])
		}
	}
	all("")
}

// TestOfChance: names of instances by chance, as they are or with a sign changed.
func TestOfChance(t *testing.T) {
	r := rand.New(rand.NewSource(1))
	signs := "abz019.-"
	for range 50000 {
		b := []byte{'a' + byte(r.Intn(26))}
		for range r.Intn(18) {
			b = append(b, signs[r.Intn(len(signs))])
		}
		b = append(b, '.')
		b = strconv.AppendInt(b, r.Int63n(1<<(1+r.Intn(24))), 10)
		of(t, string(b))
		b[r.Intn(len(b))] = byte(r.Intn(256))
		of(t, string(b))
	}
}

// TestMemory: what is handed in isn't changed or kept, and answers are new memory.
func TestMemory(t *testing.T) {
	s := full()
	deps := s.Deps[:8]
	for i := range deps {
		deps[i] = "left"
	}
	l, missed, e := crontab.Due(s, 0, year)
	if e != api.OK || len(l) != 8 || missed == 0 {
		t.Fatal(l, missed, e)
	}
	kept := slices.Clone(l)
	for i := range l[:cap(l)] {
		l[:cap(l)][i] = -1
	}
	due(t, s, 0, year, kept, missed)
	x, e := crontab.Instance(s, 3)
	if e != api.OK {
		t.Fatal(e)
	}
	x.Deps = append(x.Deps, "changed")
	instance(t, s, 3)
	for _, name := range deps {
		if name != "left" {
			t.Error(deps)
		}
	}
	if want := full(); !reflect.DeepEqual(s, want) {
		t.Errorf("%#v", s)
	}
}

// TestFast: as many templates as there may be, over all ticks.
func TestFast(t *testing.T) {
	start := time.Now()
	for i := range api.MaxJobs {
		text := []string{"* * * * *", "0 0 29 2 *", "0 0 30 2 *", "59 23 31 12 *"}[i%4]
		if _, _, e := crontab.Due(template(text, 1+i%16), 0, last); e != api.OK {
			t.Fatal(e)
		}
	}
	if d := time.Since(start); d > 20*time.Second {
		t.Error(d)
	}
}
