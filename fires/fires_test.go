package fires_test

import (
	"math"
	"math/rand"
	"slices"
	"testing"
	"time"

	"compline/api"
	"compline/calendar"
	"compline/cron"
	"compline/fires"
)

const (
	day  = 24 * 60      // ticks
	turn = 146097 * day // ticks of 400 years
	last = api.MaxTick  // 2092528-03-09 12:16, a Tuesday
)

// All values of each field.
const (
	allMinutes  = 1<<60 - 1
	allHours    = 1<<24 - 1
	allDays     = 1<<32 - 2
	allMonths   = 1<<13 - 2
	allWeekdays = 1<<7 - 1
)

// Numbers that are no ticks, on either side. (-1 stands by itself: those below count as it.)
var (
	below = []int64{-2, -3, -60, -day, -turn, math.MinInt32, -1 << 40, math.MinInt64 + 1, math.MinInt64}
	above = []int64{last + 1, last + 2, last + day, last + turn, 1 << 41, 1 << 62, math.MaxInt64 - 1, math.MaxInt64}
)

// parsed is what a text is parsed to.
func parsed(t *testing.T, s string) cron.Expr {
	t.Helper()
	e, f := cron.Parse(s)
	if f != api.OK {
		t.Fatalf("Parse(%q): %d", s, f)
	}
	return e
}

// tick is that of a moment, written out.
func tick(t *testing.T, s string) int64 {
	t.Helper()
	m, f := time.Parse("2006-01-02 15:04", s)
	if f != nil {
		t.Fatal(f)
	}
	return (m.Unix() - zero) / 60
}

// zero is the time of tick 0, by another calendar.
var zero = time.Date(2000, 1, 1, 0, 0, 0, 0, time.UTC).Unix()

// timeOf is a tick's time, by that calendar.
func timeOf(tick int64) time.Time { return time.Unix(zero+60*tick, 0).UTC() }

// has is whether a number is among values.
func has(all uint64, n int) bool { return all&(1<<n) != 0 }

// onDay is whether a time's day and month are named, by the words of chapter 7.
func onDay(e cron.Expr, m time.Time) bool {
	d, w := has(e.Days, m.Day()), has(e.Weekdays, int(m.Weekday()))
	if !e.AnyDay && !e.AnyWeekday {
		d = d || w
		w = d
	}
	return has(e.Months, int(m.Month())) && d && w
}

// naive is the first tick above one that an expression names, by way of each day up to 400 years behind it.
func naive(e cron.Expr, after int64) (int64, bool) {
	if after >= last {
		return 0, false
	}
	after = max(after, -1)
	first := (after + 1) / day * day
	for d := first; d <= first+turn && d <= last; d += day {
		if !onDay(e, timeOf(d)) {
			continue
		}
		for minute := range int64(day) {
			x := d + minute
			if x > after && x <= last && has(e.Hours, int(minute/60)) && has(e.Minutes, int(minute%60)) {
				return x, true
			}
		}
	}
	return 0, false
}

// each is all ticks above one, up to another one, that are named, by way of each tick.
func each(e cron.Expr, after, to int64) []int64 {
	var l []int64
	for x := max(after, -1) + 1; x <= min(to, last); x++ {
		if e.At(x) {
			l = append(l, x)
		}
	}
	return l
}

// next holds Next against a tick, or, below 0, against none.
func next(t *testing.T, e cron.Expr, after, want int64) {
	t.Helper()
	x, ok := fires.Next(e, after)
	if want < 0 && (x != 0 || ok) {
		t.Errorf("%q: Next behind %d: %d (%s), %v, not none", e.Text(), after, x, calendar.Text(x), ok)
	}
	if want >= 0 && (x != want || !ok) {
		t.Errorf("%q: Next behind %d: %d (%s), %v, not %d (%s)", e.Text(), after, x, calendar.Text(x), ok, want, calendar.Text(want))
	}
}

// counted holds Count against a number, and, where it isn't too many, at most fewer ones against the fewer ones.
func counted(t *testing.T, e cron.Expr, after, to int64, n int) {
	t.Helper()
	for _, most := range []int{math.MinInt, math.MinInt32, -2, -1, 0, 1, 2, n / 2, n - 1, n, n + 1, 2 * n, math.MaxInt32, math.MaxInt - 1, math.MaxInt} {
		want := max(0, min(n, most))
		if got := fires.Count(e, after, to, most); got != want {
			t.Errorf("%q: Count above %d, up to %d, at most %d: %d, not %d", e.Text(), after, to, most, got, want)
		}
	}
}

// between holds Between, and Count, against ticks.
func between(t *testing.T, e cron.Expr, after, to int64, want []int64) {
	t.Helper()
	if got := slices.Collect(fires.Between(e, after, to)); !slices.Equal(got, want) {
		t.Errorf("%q: Between above %d, up to %d: %d ticks, not %d: %v, not %v", e.Text(), after, to, len(got), len(want), got[:min(9, len(got))], want[:min(9, len(want))])
	}
	counted(t, e, after, to, len(want))
}

// texts are expressions of many kinds, that name ticks.
var texts = []string{
	"* * * * *", "0 * * * *", "59 * * * *", "0 0 * * *", "59 23 * * *", "*/20 * * * *", "7,8,59 0,13,23 * * *", "* 5 * * *", "30 4 1 * *",
	"0 12 1 * mon", "0 12 * * mon", "0 12 13 * *", "0 0 13 * fri", "0 0 */2 * */2", "0 0 1-31 * sun", "0 0 31 * *", "0 0 30 * *", "0 0 29 * *", "0 0 31 1,3 *",
	"0 0 29 2 *", "59 23 29 2 *", "* * 29 feb *", "0 0 30 2 sun", "0 0 31 feb,apr mon", "0 0 1 1 *", "59 23 31 12 *", "0 0 28-31 feb *", "15 6 * jun,dec sat", "* * * 2 2", "0 0 * 2 7", "*/7 */5 */6 */4 *",
}

// P8.1: Next

func TestNextKnown(t *testing.T) {
	for _, k := range []struct{ text, after, want string }{
		{"0 0 29 2 *", "2000-01-01 00:00", "2000-02-29 00:00"},
		{"0 0 29 2 *", "2000-02-29 00:00", "2004-02-29 00:00"},
		{"0 0 29 2 *", "2000-02-28 23:59", "2000-02-29 00:00"},
		{"0 0 29 2 *", "2096-02-29 00:00", "2104-02-29 00:00"},
		{"0 0 29 2 *", "2396-02-29 00:00", "2400-02-29 00:00"},
		{"0 0 29 2 *", "2496-12-31 00:00", "2504-02-29 00:00"},
		{"30 4 1 * *", "2000-01-01 00:00", "2000-01-01 04:30"},
		{"30 4 1 * *", "2000-01-01 04:29", "2000-01-01 04:30"},
		{"30 4 1 * *", "2000-01-01 04:30", "2000-02-01 04:30"},
		{"30 4 1 * *", "2000-12-01 04:30", "2001-01-01 04:30"},
		{"* * * * *", "2000-01-01 00:00", "2000-01-01 00:01"},
		{"* * * * *", "2000-02-28 23:59", "2000-02-29 00:00"},
		{"* * * * *", "2001-02-28 23:59", "2001-03-01 00:00"},
		{"* * * * *", "2000-12-31 23:59", "2001-01-01 00:00"},
		{"59 * * * *", "2000-01-01 00:59", "2000-01-01 01:59"},
		{"59 * * * *", "2000-01-01 23:59", "2000-01-02 00:59"},
		{"0 * * * *", "2000-01-01 00:59", "2000-01-01 01:00"},
		{"10,20 3,5 * * *", "2000-01-01 03:15", "2000-01-01 03:20"},
		{"10,20 3,5 * * *", "2000-01-01 03:20", "2000-01-01 05:10"},
		{"10,20 3,5 * * *", "2000-01-01 04:59", "2000-01-01 05:10"},
		{"10,20 3,5 * * *", "2000-01-01 05:20", "2000-01-02 03:10"},
		// Either the day or the weekday will do; with just * in one of both fields both must do.
		{"0 12 1 * mon", "2000-01-01 00:00", "2000-01-01 12:00"},
		{"0 12 1 * mon", "2000-01-01 12:00", "2000-01-03 12:00"},
		{"0 12 1 * mon", "2000-01-31 12:00", "2000-02-01 12:00"},
		{"0 12 * * mon", "2000-01-31 12:00", "2000-02-07 12:00"},
		{"0 12 1 * *", "2000-01-31 12:00", "2000-02-01 12:00"},
		{"0 0 * * 7", "2000-01-01 00:00", "2000-01-02 00:00"},
		{"0 0 30 2 mon", "2000-01-01 00:00", "2000-02-07 00:00"},
		{"0 0 30 2 mon", "2000-02-28 00:00", "2001-02-05 00:00"},
		// Months that are too short are passed by.
		{"0 0 31 * *", "2000-01-31 00:00", "2000-03-31 00:00"},
		{"0 0 31 2,4,6,7,9 *", "2000-01-31 00:00", "2000-07-31 00:00"},
		{"0 0 31 2,4,6,7,9 *", "2000-07-31 00:00", "2001-07-31 00:00"},
		{"0 0 1 jan *", "2000-01-01 00:00", "2001-01-01 00:00"},
		{"59 23 31 dec *", "9998-12-31 23:59", "9999-12-31 23:59"},
	} {
		next(t, parsed(t, k.text), tick(t, k.after), tick(t, k.want))
	}
}

func TestNextAtTheBeginning(t *testing.T) {
	for _, s := range texts {
		e := parsed(t, s)
		want, ok := naive(e, -1)
		if !ok || (want == 0) != e.At(0) {
			t.Fatalf("%q: %d, %v", s, want, ok)
		}
		next(t, e, -1, want)
		for _, after := range below {
			next(t, e, after, want)
		}
	}
	next(t, parsed(t, "* * * * *"), -1, 0)
	next(t, parsed(t, "* * * * *"), 0, 1)
	next(t, parsed(t, "0 0 1 1 6"), -1, 0)
	next(t, parsed(t, "0 0 1 1 *"), 0, 366*day)
}

func TestNextAtTheEnd(t *testing.T) {
	for _, s := range texts {
		for _, after := range slices.Concat(above, []int64{last}) {
			next(t, parsed(t, s), after, -1)
		}
	}
	minute := parsed(t, "* * * * *")
	next(t, minute, last-2, last-1)
	next(t, minute, last-1, last)
	final := parsed(t, "16 12 9 3 *")
	next(t, final, last-1, last)
	next(t, final, last-366*day-1, last-366*day)
	next(t, final, last-366*day, last)
	// The next minute, hour, day, month and so on would be named, if they were ticks.
	for _, s := range []string{"17 12 9 3 *", "17-59 * 9 3 *", "0 13 9 3 *", "0 0 10 3 *", "0 0 * 3 wed", "0 0 1 4 *", "59 23 31 12 *", "17-59 12-23 9 3 *"} {
		e := parsed(t, s)
		behind, ok := fires.Next(e, last-400*day)
		if !ok || behind > last || !e.At(behind) {
			t.Errorf("%q: Next: %d, %v", s, behind, ok)
		}
		want := int64(-1)
		if x, ok := naive(e, last-day); ok {
			want = x
		}
		next(t, e, last-day, want)
		next(t, e, last-1, -1)
	}
	next(t, parsed(t, "0 0 1 1 *"), tick(t, "9999-01-01 00:00")+turn*5000, tick(t, "9999-01-01 00:00")+turn*5000+365*day)
	next(t, parsed(t, "0 0 29 2 *"), last-366*day, last-9*day-12*60-16)
	next(t, parsed(t, "0 0 29 2 *"), last-9*day, -1)
	next(t, parsed(t, "16 12 29 2 *"), last-9*day-1, last-9*day)
	next(t, parsed(t, "17 12 28 2 *"), last-9*day, -1)
}

// TestNextAnyMinute is behind each tick of some days at the ends of months and years.
func TestNextAnyMinute(t *testing.T) {
	starts := []int64{0, tick(t, "2000-02-28 00:00"), tick(t, "2000-12-31 00:00"), tick(t, "2023-02-27 00:00"), tick(t, "2100-02-28 00:00"), last - 2*day}
	for _, s := range texts {
		e := parsed(t, s)
		for _, start := range starts {
			end := min(start+2*day, last)
			want := int64(-1)
			if x, ok := naive(e, end); ok {
				want = x
			}
			for after := end; after >= start; after-- {
				next(t, e, after, want)
				if e.At(after) {
					want = after
				}
			}
			if t.Failed() {
				return
			}
		}
	}
}

// anyBits is some of the values, in any number, often few.
func anyBits(r *rand.Rand, all uint64) uint64 {
	b := r.Uint64() & all
	for r.Intn(3) > 0 {
		b &= r.Uint64()
	}
	if b == 0 && r.Intn(8) > 0 {
		return all
	}
	return b
}

// anyExpr is an expression that may be parsed of no text.
func anyExpr(r *rand.Rand) cron.Expr {
	all := uint64(math.MaxUint64)
	if r.Intn(2) == 0 {
		return cron.Expr{
			Minutes: anyBits(r, allMinutes), Hours: anyBits(r, allHours), Days: anyBits(r, allDays), Months: anyBits(r, allMonths), Weekdays: anyBits(r, allWeekdays),
			AnyDay: r.Intn(2) == 0, AnyWeekday: r.Intn(2) == 0,
		}
	}
	return cron.Expr{
		Minutes: anyBits(r, all), Hours: anyBits(r, all), Days: anyBits(r, all), Months: anyBits(r, all), Weekdays: anyBits(r, all),
		AnyDay: r.Intn(2) == 0, AnyWeekday: r.Intn(2) == 0,
	}
}

// anyTick is one anywhere, often an early one, or the last ones.
func anyTick(r *rand.Rand) int64 {
	x := r.Int63n(last+2) >> r.Intn(40)
	if r.Intn(4) == 0 {
		return last - x
	}
	return x - 1
}

func TestNextAnyExpr(t *testing.T) {
	r := rand.New(rand.NewSource(81))
	nones := 0
	for range 800 {
		e, after := anyExpr(r), anyTick(r)
		want, ok := naive(e, after)
		if !ok {
			want = -1
			nones++
		}
		next(t, e, after, want)
		if ok && !e.At(want) {
			t.Errorf("%q: %d isn't named", e.Text(), want)
		}
	}
	if nones < 10 || nones > 400 {
		t.Errorf("%d without a tick", nones)
	}
}

// P8.1: Between, Count

func TestBetweenKnown(t *testing.T) {
	twenty := parsed(t, "*/20 * * * *")
	between(t, twenty, 10, 70, []int64{20, 40, 60})
	between(t, twenty, 20, 60, []int64{40, 60})
	between(t, twenty, 19, 60, []int64{20, 40, 60})
	between(t, twenty, 20, 59, []int64{40})
	between(t, twenty, 20, 39, nil)
	between(t, twenty, 20, 40, []int64{40})
	between(t, twenty, -1, 40, []int64{0, 20, 40})
	between(t, twenty, -1, 0, []int64{0})
	between(t, twenty, 0, 0, nil)
	between(t, twenty, 0, 20, []int64{20})
	leap := parsed(t, "0 0 29 2 *")
	between(t, leap, 0, 5*366*day, []int64{59 * day, 59*day + 1461*day})
	between(t, leap, 0, 58*day, nil)
	between(t, parsed(t, "59 23 31 12 *"), -1, 366*day, []int64{366*day - 1})
	counted(t, parsed(t, "30 4 1 * *"), 0, 366*day, 12)
	counted(t, parsed(t, "0 0 29 2 *"), -1, turn-1, 97)
	counted(t, parsed(t, "0 0 13 * *"), -1, turn-1, 4800)
	counted(t, parsed(t, "0 0 * * fri"), -1, turn-1, 20871)
}

func TestBetweenEachTick(t *testing.T) {
	pairs := [][2]int64{
		{-1, 0}, {-1, 1}, {-1, 3 * day}, {0, 0}, {0, 1}, {5, 5}, {0, 366 * day},
		{tick(t, "2000-02-28 12:30"), tick(t, "2000-03-01 12:30")}, {tick(t, "2003-12-30 07:59"), tick(t, "2004-03-02 13:00")}, {tick(t, "2099-12-31 23:58"), tick(t, "2100-03-01 00:00")},
		{last - 70*day, last}, {last - 1, last}, {last, last}, {last - 2, last - 1},
	}
	for _, s := range texts {
		e := parsed(t, s)
		for _, p := range pairs {
			between(t, e, p[0], p[1], each(e, p[0], p[1]))
		}
	}
}

func TestBetweenOutside(t *testing.T) {
	for _, s := range texts {
		e := parsed(t, s)
		early, late := each(e, -1, 40*day), each(e, last-40*day, last)
		for _, x := range below {
			between(t, e, x, 40*day, early)
			between(t, e, 5, x, nil)
			between(t, e, -1, x, nil)
			for _, y := range below {
				between(t, e, x, y, nil)
			}
			between(t, e, x, -1, nil)
		}
		for _, x := range above {
			between(t, e, last-40*day, x, late)
			between(t, e, x, 5, nil)
			between(t, e, last, x, nil)
			for _, y := range above {
				between(t, e, x, y, nil)
			}
		}
		// Up to a tick that isn't above: none.
		for _, p := range [][2]int64{{5, 4}, {5, 0}, {5, -1}, {day, 0}, {last, 0}, {last, last - 1}, {last, last - day}, {math.MaxInt64, math.MinInt64}, {math.MaxInt64, -1}, {0, math.MinInt64}} {
			between(t, e, p[0], p[1], nil)
		}
	}
}

func TestBetweenAnyExpr(t *testing.T) {
	r := rand.New(rand.NewSource(82))
	for range 2000 {
		e, after := anyExpr(r), anyTick(r)
		to := after + r.Int63n(30*day)>>r.Intn(16)
		between(t, e, after, to, each(e, after, to))
		if t.Failed() {
			return
		}
	}
}

// TestBetweenIsLeft: whoever goes through it may leave it anywhere, and is told no more then.
func TestBetweenIsLeft(t *testing.T) {
	for _, s := range []string{"* * * * *", "*/20 5,6 * * *", "0 0 * * *", "0 0 31 * *"} {
		e := parsed(t, s)
		all := slices.Collect(fires.Between(e, 100, 400*day))
		for _, n := range []int{1, 2, 3, 4, 5, 6, 7} {
			told := 0
			fires.Between(e, 100, 400*day)(func(x int64) bool {
				if told >= n || x != all[told] {
					t.Errorf("%q: told %d behind %d ticks", s, x, told)
				}
				told++
				return told < n
			})
			if told != n {
				t.Errorf("%q: told %d ticks, not %d", s, told, n)
			}
		}
	}
	fires.Between(parsed(t, "* * * * *"), 0, 10)(nil)
}

// TestBetweenAgain: it tells the same each time, while it is gone through too.
func TestBetweenAgain(t *testing.T) {
	for _, s := range texts {
		e := parsed(t, s)
		want := slices.Collect(fires.Between(e, 7, 4*day))
		l := fires.Between(e, 7, 4*day)
		e = cron.Expr{}
		for range l {
			break
		}
		for i := range 2 {
			if got := slices.Collect(l); !slices.Equal(got, want) {
				t.Errorf("%q: gone through again (%d): %v, not %v", s, i, got, want)
			}
		}
		n := 0
		for x := range l {
			if n == 3 || x != want[n] {
				break
			}
			if got := slices.Collect(l); !slices.Equal(got, want) {
				t.Errorf("%q: gone through while it is: %v, not %v", s, got, want)
			}
			n++
		}
		if n != min(3, len(want)) {
			t.Errorf("%q: %d ticks around", s, n)
		}
	}
}

func TestCountMany(t *testing.T) {
	minute := parsed(t, "* * * * *")
	for n := 1; n <= 1<<20; n *= 4 {
		for _, after := range []int64{-1, 0, 12345, last / 2, last - 1<<21} {
			if got := fires.Count(minute, after, last, n); got != n {
				t.Errorf("Count, at most %d: %d", n, got)
			}
			if got := fires.Count(minute, after, after+int64(n), math.MaxInt); got != n {
				t.Errorf("Count up to %d: %d", n, got)
			}
		}
	}
	// All ticks, and but one.
	all := last + 1
	for _, most := range []int{all - 1, math.MaxInt} {
		if got := fires.Count(minute, -1, last, most); got != min(all, most) {
			t.Errorf("Count of all, at most %d: %d", most, got)
		}
	}
}

// TestCountTurns is over many times 400 years.
func TestCountTurns(t *testing.T) {
	r := rand.New(rand.NewSource(83))
	for s, n := range map[string]int{"0 0 1 1 *": 400, "0 0 29 2 *": 97, "0 0 28 2 *": 400, "0 0 30 2 *": 0, "5,6 7 31 * *": 5600, "0 0 13 * *": 4800, "0 0 * * sun": 20871, "0 0 1 * sun": 20871 + 4800 - 688} {
		e := parsed(t, s)
		for range 5 {
			turns := r.Intn(60)
			after := r.Int63n(last-61*turn) - 1
			rest := r.Int63n(turn)
			few := 0
			for range fires.Between(e, after, after+rest) {
				few++
			}
			counted(t, e, after, after+rest+int64(turns)*turn, few+turns*n)
		}
		for _, x := range []int64{turn - 1, turn, turn + 1, 2*turn - 1, 2 * turn, 2*turn + 1} {
			want := n
			if x >= 2*turn-1 {
				want = 2 * n
			}
			if x == turn || x == 2*turn {
				want += len(each(e, -1, 0))
			}
			if x == turn+1 || x == 2*turn+1 {
				want += len(each(e, -1, 1))
			}
			counted(t, e, -1, x, want)
		}
	}
	// Each year up to the last tick's one has a 1st of January.
	counted(t, parsed(t, "0 0 1 1 *"), -1, last, 2092529-2000)
	counted(t, parsed(t, "0 0 1 1 *"), math.MinInt64, math.MaxInt64, 2092529-2000)
	counted(t, parsed(t, "16 12 9 3 *"), -1, last, 2092529-2000)
	counted(t, parsed(t, "17 12 9 3 *"), -1, last, 2092528-2000)
}

// P8.1: Ever

func TestEver(t *testing.T) {
	for _, s := range texts {
		if !fires.Ever(parsed(t, s)) {
			t.Errorf("%q: not Ever", s)
		}
	}
	for _, s := range []string{"0 0 30 2 *", "0 0 31 2 *", "* * 30,31 feb *", "0 0 31 4 *", "0 0 31 6 *", "0 0 31 9 *", "0 0 31 11 *", "* * 31 2,4,6,9,11 *"} {
		e := parsed(t, s)
		if fires.Ever(e) {
			t.Errorf("%q: Ever", s)
		}
		for _, after := range slices.Concat([]int64{-1, 0, 1, day, 12345678, turn, last / 2, last - turn, last - 1, last}, below, above) {
			next(t, e, after, -1)
			between(t, e, after, last, nil)
			between(t, e, -1, after, nil)
		}
	}
}

// ever holds Ever, and Next from the beginning, against what is asked.
func ever(t *testing.T, e cron.Expr, want bool) {
	t.Helper()
	_, ok := fires.Next(e, -1)
	if got := fires.Ever(e); got != want || ok != want {
		t.Errorf("Ever of %+v: %v, Next %v", e, got, ok)
	}
}

// TestEverAnyExpr is of expressions that no text is parsed to.
func TestEverAnyExpr(t *testing.T) {
	full := cron.Expr{Minutes: allMinutes, Hours: allHours, Days: allDays, Months: allMonths, Weekdays: allWeekdays}
	ever(t, full, true)
	ever(t, cron.Expr{}, false)
	ever(t, cron.Expr{AnyDay: true, AnyWeekday: true}, false)
	// What lies beyond a field's bounds names nothing, and hides nothing.
	for _, change := range []func(*cron.Expr, uint64){
		func(e *cron.Expr, b uint64) { e.Minutes = e.Minutes&b | ^uint64(allMinutes) },
		func(e *cron.Expr, b uint64) { e.Hours = e.Hours&b | ^uint64(allHours) },
		func(e *cron.Expr, b uint64) { e.Months = e.Months&b | ^uint64(allMonths) },
		func(e *cron.Expr, b uint64) { e.Days, e.AnyDay = e.Days&b|^uint64(allDays), true },
		func(e *cron.Expr, b uint64) { e.Weekdays, e.AnyWeekday = e.Weekdays&b|^uint64(allWeekdays), true },
	} {
		e := full
		change(&e, 0)
		ever(t, e, false)
		between(t, e, 0, 3*day, nil)
		e = full
		change(&e, math.MaxUint64)
		ever(t, e, true)
		counted(t, e, 0, 3*day, 3*day)
		e = full
		change(&e, 1<<5)
		ever(t, e, true)
		between(t, e, 10, 70*day, each(e, 10, 70*day))
	}
	either := full
	either.Days, either.Weekdays = 0, 0
	ever(t, either, false)
	either.Days = 1 << 30
	ever(t, either, true)
	either.Months = 1 << 2
	ever(t, either, false)
	either.Weekdays = 1 << 3
	ever(t, either, true)
}

// P8.2

// TestOneBehindTheOther: Between is Next behind Next.
func TestOneBehindTheOther(t *testing.T) {
	r := rand.New(rand.NewSource(84))
	exprs := []cron.Expr{}
	for _, s := range texts {
		exprs = append(exprs, parsed(t, s))
	}
	for range 100 {
		exprs = append(exprs, anyExpr(r))
	}
	for _, e := range exprs {
		for _, start := range []int64{-1, 0, tick(t, "2099-12-31 12:34"), anyTick(r), last - 100*day, math.MinInt64, math.MaxInt64} {
			to := max(start, -1)
			if to <= last {
				to += 3000 * day
			}
			at, n := start, 0
			for x := range fires.Between(e, start, to) {
				next(t, e, at, x)
				if x <= at || x > to || x > last {
					t.Fatalf("%q: %d behind %d, up to %d", e.Text(), x, at, to)
				}
				if at = x; n == 500 {
					break
				}
				n++
			}
			if n == 500 {
				continue
			}
			if x, ok := fires.Next(e, at); ok && x <= to {
				t.Errorf("%q: %d isn't among those up to %d", e.Text(), x, to)
			}
		}
	}
}

// TestEach400Years: what is named is named again behind 400 years, and whatever is named at all is named within these.
func TestEach400Years(t *testing.T) {
	r := rand.New(rand.NewSource(85))
	for range 2000 {
		e, after := anyExpr(r), r.Int63n(last-2*turn)
		x, ok := fires.Next(e, after)
		if ok != fires.Ever(e) {
			t.Fatalf("%q: Next behind %d: %v, Ever: %v", e.Text(), after, ok, !ok)
		}
		if !ok {
			next(t, e, after+turn, -1)
			continue
		}
		if x <= after || x > after+turn {
			t.Fatalf("%q: Next behind %d: %d", e.Text(), after, x)
		}
		next(t, e, after+turn, x+turn)
	}
}

// TestRareDays is of the 29th of February on one weekday: between two of these are up to 40 years.
func TestRareDays(t *testing.T) {
	for weekday := range 7 {
		e := cron.Expr{Minutes: 1 << 59, Hours: 1 << 23, Days: 1 << 29, Months: 1 << 2, Weekdays: 1 << weekday, AnyDay: true}
		ever(t, e, true)
		var want []int64
		for year := 2000; year < 2800; year++ {
			m := time.Date(year, 2, 29, 23, 59, 0, 0, time.UTC)
			if m.Day() == 29 && int(m.Weekday()) == weekday {
				want = append(want, (m.Unix()-zero)/60)
			}
		}
		between(t, e, -1, 2*turn-1, want)
		at := int64(-1)
		for _, x := range want {
			next(t, e, at, x)
			next(t, e, x-1, x)
			at = x
		}
	}
}

// TestNothingKept: what was asked before changes no answer.
func TestNothingKept(t *testing.T) {
	r := rand.New(rand.NewSource(86))
	type call struct {
		e         cron.Expr
		after, to int64
	}
	type answer struct {
		next  int64
		ok    bool
		count int
		ever  bool
		first int64
	}
	ask := func(c call) answer {
		var a answer
		a.next, a.ok = fires.Next(c.e, c.after)
		a.count = fires.Count(c.e, c.after, c.to, 1000)
		a.ever = fires.Ever(c.e)
		for x := range fires.Between(c.e, c.after, c.to) {
			a.first = x
			break
		}
		return a
	}
	var calls []call
	var answers []answer
	for range 300 {
		after := anyTick(r)
		calls = append(calls, call{anyExpr(r), after, after + r.Int63n(100*day)})
		answers = append(answers, ask(calls[len(calls)-1]))
	}
	for _, i := range r.Perm(len(calls)) {
		if a := ask(calls[i]); a != answers[i] {
			t.Errorf("asked again: %v, not %v", a, answers[i])
		}
	}
}
