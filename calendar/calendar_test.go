package calendar_test

import (
	"math"
	"math/rand"
	"testing"
	"time"

	"compline/api"
	"compline/calendar"
)

const minutes = 24 * 60 // of a day

// last is the last tick's moment: a Tuesday.
var last = calendar.Moment{Year: 2092528, Month: 3, Day: 9, Weekday: 2, Hour: 12, Minute: 16}

// zero is the time of tick 0, by another calendar.
var zero = time.Date(2000, 1, 1, 0, 0, 0, 0, time.UTC).Unix()

// other is a tick's moment, and its text, by another calendar.
func other(tick int64) (calendar.Moment, string) {
	t := time.Unix(zero+60*tick, 0).UTC()
	m := calendar.Moment{Year: t.Year(), Month: int(t.Month()), Day: t.Day(), Weekday: int(t.Weekday()), Hour: t.Hour(), Minute: t.Minute()}
	return m, t.Format("2006-01-02 15:04")
}

// pair holds a tick against its moment, both ways.
func pair(t *testing.T, tick int64, m calendar.Moment) {
	t.Helper()
	if got, e := calendar.Of(tick); got != m || e != api.OK {
		t.Errorf("Of(%d): %v, %d, not %v", tick, got, e, m)
	}
	if got, e := calendar.Tick(m); got != tick || e != api.OK {
		t.Errorf("Tick(%v): %d, %d, not %d", m, got, e, tick)
	}
}

// refused holds Tick of a moment against an error.
func refused(t *testing.T, m calendar.Moment, want api.Errno) {
	t.Helper()
	if got, e := calendar.Tick(m); got != 0 || e != want {
		t.Errorf("Tick(%v): %d, %d, not 0, %d", m, got, e, want)
	}
}

// known are moments, written out.
var known = []struct {
	tick int64
	text string
	m    calendar.Moment
}{
	{0, "2000-01-01 00:00", calendar.Moment{Year: 2000, Month: 1, Day: 1, Weekday: 6}},
	{1, "2000-01-01 00:01", calendar.Moment{Year: 2000, Month: 1, Day: 1, Weekday: 6, Minute: 1}},
	{59, "2000-01-01 00:59", calendar.Moment{Year: 2000, Month: 1, Day: 1, Weekday: 6, Minute: 59}},
	{60, "2000-01-01 01:00", calendar.Moment{Year: 2000, Month: 1, Day: 1, Weekday: 6, Hour: 1}},
	{1439, "2000-01-01 23:59", calendar.Moment{Year: 2000, Month: 1, Day: 1, Weekday: 6, Hour: 23, Minute: 59}},
	{1440, "2000-01-02 00:00", calendar.Moment{Year: 2000, Month: 1, Day: 2}},
	{59*1440 + 754, "2000-02-29 12:34", calendar.Moment{Year: 2000, Month: 2, Day: 29, Weekday: 2, Hour: 12, Minute: 34}},
	{60 * 1440, "2000-03-01 00:00", calendar.Moment{Year: 2000, Month: 3, Day: 1, Weekday: 3}},
	{366*1440 - 1, "2000-12-31 23:59", calendar.Moment{Year: 2000, Month: 12, Day: 31, Weekday: 0, Hour: 23, Minute: 59}},
	{366 * 1440, "2001-01-01 00:00", calendar.Moment{Year: 2001, Month: 1, Day: 1, Weekday: 1}},
	{(36525+59)*1440 - 1, "2100-02-28 23:59", calendar.Moment{Year: 2100, Month: 2, Day: 28, Weekday: 0, Hour: 23, Minute: 59}},
	{(36525 + 59) * 1440, "2100-03-01 00:00", calendar.Moment{Year: 2100, Month: 3, Day: 1, Weekday: 1}},
	{(146097 + 59) * 1440, "2400-02-29 00:00", calendar.Moment{Year: 2400, Month: 2, Day: 29, Weekday: 2}},
	{4207593599, "9999-12-31 23:59", calendar.Moment{Year: 9999, Month: 12, Day: 31, Weekday: 5, Hour: 23, Minute: 59}},
	{4207593600, "10000-01-01 00:00", calendar.Moment{Year: 10000, Month: 1, Day: 1, Weekday: 6}},
	{1 << 40, "2092528-03-09 12:16", last},
}

// outside are numbers that are no ticks.
var outside = []int64{-1, -2, -1440, math.MinInt32, math.MinInt64, -1 << 40, 1<<40 + 1, 1<<40 + 1440, 1 << 41, math.MaxInt64 - 1, math.MaxInt64}

// P6.1

func TestKnown(t *testing.T) {
	for _, k := range known {
		pair(t, k.tick, k.m)
		if s := calendar.Text(k.tick); s != k.text {
			t.Errorf("Text(%d): %q, not %q", k.tick, s, k.text)
		}
	}
}

func TestOutside(t *testing.T) {
	for _, tick := range outside {
		if m, e := calendar.Of(tick); m != (calendar.Moment{}) || e != api.ErrRange {
			t.Errorf("Of(%d): %v, %d", tick, m, e)
		}
		if s := calendar.Text(tick); s != "?" {
			t.Errorf("Text(%d): %q", tick, s)
		}
	}
}

func TestAnyTick(t *testing.T) {
	r := rand.New(rand.NewSource(6))
	for i := range 300000 {
		tick := r.Int63n(api.MaxTick + 1)
		if i%2 == 0 {
			tick >>= r.Intn(40)
		}
		m, text := other(tick)
		pair(t, tick, m)
		if s := calendar.Text(tick); s != text {
			t.Fatalf("Text(%d): %q, not %q", tick, s, text)
		}
	}
}

func TestTickOfAnyWeekday(t *testing.T) {
	for _, k := range known {
		for _, w := range []int{0, 1, 2, 3, 4, 5, 6, 7, -1, math.MinInt, math.MaxInt} {
			m := k.m
			m.Weekday = w
			if got, e := calendar.Tick(m); got != k.tick || e != api.OK {
				t.Errorf("Tick(%v): %d, %d, not %d", m, got, e, k.tick)
			}
		}
	}
}

// wrong are moments that there are not, in any year that isn't a leap year.
var wrong = []calendar.Moment{
	{Month: 2, Day: 29}, {Month: 2, Day: 30}, {Month: 2, Day: 31},
	{Month: 1, Day: 32}, {Month: 3, Day: 32}, {Month: 5, Day: 32}, {Month: 7, Day: 32}, {Month: 8, Day: 32}, {Month: 10, Day: 32}, {Month: 12, Day: 32},
	{Month: 4, Day: 31}, {Month: 6, Day: 31}, {Month: 9, Day: 31}, {Month: 11, Day: 31},
	{Month: 0, Day: 1}, {Month: 0, Day: 0}, {Month: 13, Day: 1}, {Month: -1, Day: 1}, {Month: math.MinInt, Day: 1}, {Month: math.MaxInt, Day: 1},
	{Month: 1<<32 + 1, Day: 1}, {Month: 1<<8 + 1, Day: 1},
	{Month: 1, Day: 0}, {Month: 1, Day: -1}, {Month: 3, Day: math.MinInt}, {Month: 3, Day: math.MaxInt}, {Month: 3, Day: 1<<32 + 1},
	{Month: 1, Day: 1, Hour: 24}, {Month: 1, Day: 1, Hour: -1}, {Month: 1, Day: 1, Hour: math.MinInt}, {Month: 1, Day: 1, Hour: math.MaxInt},
	{Month: 1, Day: 1, Minute: 60}, {Month: 1, Day: 1, Minute: -1}, {Month: 1, Day: 1, Minute: math.MinInt}, {Month: 1, Day: 1, Minute: math.MaxInt},
	{Month: 1, Day: 1, Hour: 1, Minute: -1}, {Month: 1, Day: 2, Hour: -1}, {Month: 12, Day: 31, Hour: 24}, {Month: 1, Day: 1, Hour: 23, Minute: 60},
}

func TestTickOfNone(t *testing.T) {
	// ErrArg comes first, of years outside too.
	for _, year := range []int{2001, 2023, 2100, 9999, 2092527, 2092529, 1999, 1900, 1, -1, -100, math.MinInt + 1, math.MaxInt} {
		for _, m := range wrong {
			m.Year = year
			refused(t, m, api.ErrArg)
		}
	}
	for _, year := range []int{2000, 2024, 2400, 2092528, 2092532, 1996, 1600, 0, -4, math.MinInt} {
		refused(t, calendar.Moment{Year: year, Month: 2, Day: 30}, api.ErrArg)
	}
	refused(t, calendar.Moment{}, api.ErrArg)
}

func TestTickOutside(t *testing.T) {
	for _, m := range []calendar.Moment{
		{Year: 1999, Month: 12, Day: 31, Hour: 23, Minute: 59},
		{Year: 1999, Month: 1, Day: 1},
		{Year: 1996, Month: 2, Day: 29},
		{Year: 1600, Month: 2, Day: 29},
		{Year: 0, Month: 2, Day: 29},
		{Year: -4, Month: 2, Day: 29},
		{Year: -1, Month: 12, Day: 31},
		{Year: math.MinInt, Month: 2, Day: 29},
		{Year: math.MaxInt, Month: 12, Day: 31, Hour: 23, Minute: 59},
		{Year: 2092528, Month: 3, Day: 9, Hour: 12, Minute: 17},
		{Year: 2092528, Month: 3, Day: 9, Hour: 13},
		{Year: 2092528, Month: 3, Day: 10},
		{Year: 2092528, Month: 4, Day: 1},
		{Year: 2092528, Month: 12, Day: 31, Hour: 23, Minute: 59},
		{Year: 2092529, Month: 1, Day: 1},
		{Year: 2092532, Month: 2, Day: 29},
		{Year: 2093917, Month: 1, Day: 1},
		{Year: 2093918, Month: 1, Day: 1},
	} {
		refused(t, m, api.ErrRange)
	}
	// Where numbers wrap round, far years must not come out as near ones.
	for shift := range 64 {
		for _, year := range []int{1 << shift, -1 << shift, 2000 - 1<<shift, 1<<shift + 1<<22} {
			if year < 2000 || year > 2092528 {
				refused(t, calendar.Moment{Year: year, Month: 1, Day: 1}, api.ErrRange)
			}
		}
	}
	r := rand.New(rand.NewSource(61))
	for range 100000 {
		year := int(r.Uint64()) >> r.Intn(40)
		if year < 2000 || year > 2092528 {
			refused(t, calendar.Moment{Year: year, Month: 1 + r.Intn(12), Day: 1 + r.Intn(28)}, api.ErrRange)
		}
	}
}

// TestTickWrapped is of years whose ticks, in 64 bits, would come round to ticks that there are.
func TestTickWrapped(t *testing.T) {
	const mean = 525949.2 // minutes of a year
	for rounds := -10; rounds <= 10; rounds++ {
		if rounds == 0 {
			continue
		}
		year := 2000 + int(math.Ldexp(1, 64)*float64(rounds)/mean)
		for _, years := range []int{1, 100, 100000, 1000000, 2000000} {
			refused(t, calendar.Moment{Year: year + years, Month: 7, Day: 31, Hour: 5}, api.ErrRange)
		}
	}
}

func TestLeap(t *testing.T) {
	for _, year := range []int{2000, 2004, 2024, 2096, 2104, 2400, 1600, 1996, 400, 4, 0, -4, -96, -400, -2000, 2092528, math.MinInt} {
		if !calendar.Leap(year) {
			t.Errorf("Leap(%d): false", year)
		}
	}
	for _, year := range []int{2001, 2002, 2003, 2023, 2100, 2200, 2300, 2500, 1900, 100, 1, -1, -2, -3, -100, -200, -300, 2092529, math.MaxInt, math.MinInt + 1} {
		if calendar.Leap(year) {
			t.Errorf("Leap(%d): true", year)
		}
	}
}

func TestDays(t *testing.T) {
	lengths := [12]int{31, 28, 31, 30, 31, 30, 31, 31, 30, 31, 30, 31}
	for _, year := range []int{2000, 2001, 2024, 2100, 2400, 1900, 1, 0, -1, -4, -100, -400, 2092528, math.MinInt, math.MaxInt} {
		for i, n := range lengths {
			if i == 1 && calendar.Leap(year) {
				n = 29
			}
			if got := calendar.Days(year, i+1); got != n {
				t.Errorf("Days(%d, %d): %d, not %d", year, i+1, got, n)
			}
		}
		for _, month := range []int{0, 13, 14, -1, -2, -12, 1<<8 + 1, 1<<32 + 1, math.MinInt, math.MaxInt} {
			if got := calendar.Days(year, month); got != 0 {
				t.Errorf("Days(%d, %d): %d", year, month, got)
			}
		}
	}
	// Numbers, held against no function of the package.
	if calendar.Days(2000, 2) != 29 || calendar.Days(2024, 2) != 29 || calendar.Days(2100, 2) != 28 || calendar.Days(2023, 2) != 28 || calendar.Days(-400, 2) != 29 || calendar.Days(-100, 2) != 28 {
		t.Error("Days of the 2nd month")
	}
}

// P6.2

// following is the day behind one, by the words of the chapter.
func following(m calendar.Moment) calendar.Moment {
	m.Weekday = (m.Weekday + 1) % 7
	if m.Day++; m.Day <= calendar.Days(m.Year, m.Month) {
		return m
	}
	m.Day = 1
	if m.Month++; m.Month <= 12 {
		return m
	}
	m.Month = 1
	m.Year++
	return m
}

func TestEachDay(t *testing.T) {
	m := calendar.Moment{Year: 2000, Month: 1, Day: 1, Weekday: 6}
	for tick := int64(0); m.Year < 2900; tick += minutes {
		pair(t, tick, m)
		end := m
		end.Hour, end.Minute = 23, 59
		pair(t, tick+minutes-1, end)
		if t.Failed() {
			return
		}
		m = following(m)
	}
}

func TestEachMinute(t *testing.T) {
	m := calendar.Moment{Year: 2000, Month: 1, Day: 1, Weekday: 6}
	for tick := int64(0); tick < 366*minutes; tick++ {
		pair(t, tick, m)
		if t.Failed() {
			return
		}
		if m.Minute++; m.Minute == 60 {
			m.Minute = 0
			m.Hour++
		}
		if m.Hour == 24 {
			m.Hour = 0
			m = following(m)
		}
	}
}

// TestEachYear goes over the ends of all years up to the last tick.
func TestEachYear(t *testing.T) {
	tick, weekday := int64(0), 6
	for year := 2000; year <= last.Year; year++ {
		pair(t, tick, calendar.Moment{Year: year, Month: 1, Day: 1, Weekday: weekday})
		if tick > 0 {
			pair(t, tick-1, calendar.Moment{Year: year - 1, Month: 12, Day: 31, Weekday: (weekday + 6) % 7, Hour: 23, Minute: 59})
		}
		if t.Failed() {
			return
		}
		days := 365
		if year%4 == 0 && year%100 != 0 || year%400 == 0 {
			days = 366
		}
		tick += int64(days) * minutes
		weekday = (weekday + days) % 7
	}
}

// number is a moment's parts in one number, that grows with each of them in their order.
func number(m calendar.Moment) int64 {
	return (((int64(m.Year)*13+int64(m.Month))*32+int64(m.Day))*24+int64(m.Hour))*60 + int64(m.Minute)
}

func TestLaterTicks(t *testing.T) {
	r := rand.New(rand.NewSource(62))
	for range 200000 {
		one := r.Int63n(api.MaxTick) >> r.Intn(40)
		two := one + 1 + r.Int63n(api.MaxTick-one)>>r.Intn(40)
		a, e := calendar.Of(one)
		b, f := calendar.Of(two)
		if e != api.OK || f != api.OK || number(a) >= number(b) {
			t.Fatalf("Of(%d): %v, %d; Of(%d): %v, %d", one, a, e, two, b, f)
		}
	}
}

func TestLastTicks(t *testing.T) {
	for tick := int64(api.MaxTick); tick > api.MaxTick-100*minutes; tick-- {
		m, _ := other(tick)
		pair(t, tick, m)
	}
}
