package cron_test

import (
	"math"
	"math/rand"
	"regexp"
	"strconv"
	"strings"
	"testing"

	"compline/api"
	"compline/calendar"
	"compline/cron"
)

const minutes = 24 * 60 // of a day

// All values of each field.
const (
	allMinutes  = 1<<60 - 1
	allHours    = 1<<24 - 1
	allDays     = 1<<32 - 2
	allMonths   = 1<<13 - 2
	allWeekdays = 1<<7 - 1
)

// each is "* * * * *".
var each = cron.Expr{Minutes: allMinutes, Hours: allHours, Days: allDays, Months: allMonths, Weekdays: allWeekdays, AnyDay: true, AnyWeekday: true}

// bits is values as bits.
func bits(values ...int) uint64 {
	var b uint64
	for _, v := range values {
		b |= 1 << v
	}
	return b
}

// span is values from one to another, each so-manieth, as bits.
func span(first, last, step int) uint64 {
	var b uint64
	for v := first; v <= last; v++ {
		if (v-first)%step == 0 {
			b |= 1 << v
		}
	}
	return b
}

// parsed is what a text is parsed to.
func parsed(t *testing.T, s string) cron.Expr {
	t.Helper()
	e, f := cron.Parse(s)
	if f != api.OK {
		t.Fatalf("Parse(%q): %d", s, f)
	}
	return e
}

// refused holds Parse of a text against an error.
func refused(t *testing.T, s string, want api.Errno) {
	t.Helper()
	if e, f := cron.Parse(s); e != (cron.Expr{}) || f != want {
		t.Errorf("Parse(%q): %v, %d, not %d", s, e, f, want)
	}
}

// at is "* * * * *" with another text as one of its fields.
func at(place int, s string) string {
	texts := []string{"*", "*", "*", "*", "*"}
	texts[place] = s
	return strings.Join(texts, " ")
}

// with is that, parsed, by the bits that are asked.
func with(place int, b uint64, any bool) cron.Expr {
	e := each
	switch place {
	case 0:
		e.Minutes = b
	case 1:
		e.Hours = b
	case 2:
		e.Days, e.AnyDay = b, any
	case 3:
		e.Months = b
	case 4:
		e.Weekdays, e.AnyWeekday = b, any
	}
	return e
}

// field holds Parse against the bits of one field.
func field(t *testing.T, place int, s string, b uint64, any bool) {
	t.Helper()
	want := with(place, b, any)
	if e, f := cron.Parse(at(place, s)); e != want || f != api.OK {
		t.Errorf("Parse(%q): %v, %d, not %v", at(place, s), e, f, want)
	}
}

// bounds are those of each field.
var bounds = [5][2]int{{0, 59}, {0, 23}, {1, 31}, {1, 12}, {0, 7}}

var (
	monthNames = []string{"jan", "feb", "mar", "apr", "may", "jun", "jul", "aug", "sep", "oct", "nov", "dec"}
	dayNames   = []string{"sun", "mon", "tue", "wed", "thu", "fri", "sat"}
)

// sundays is weekdays with 7 as 0.
func sundays(place int, b uint64) uint64 {
	if place == 4 && b&(1<<7) != 0 {
		return b&^(1<<7) | 1
	}
	return b
}

// P7.1: Parse

func TestParseWhole(t *testing.T) {
	for s, want := range map[string]cron.Expr{
		"* * * * *":      each,
		"0 12 1 * mon":   {Minutes: 1, Hours: 1 << 12, Days: 1 << 1, Months: allMonths, Weekdays: 1 << 1},
		"1 2 3 4 5":      {Minutes: 1 << 1, Hours: 1 << 2, Days: 1 << 3, Months: 1 << 4, Weekdays: 1 << 5},
		"59 23 31 12 6":  {Minutes: 1 << 59, Hours: 1 << 23, Days: 1 << 31, Months: 1 << 12, Weekdays: 1 << 6},
		"00 00 01 01 00": {Minutes: 1, Hours: 1, Days: 1 << 1, Months: 1 << 1, Weekdays: 1},
		"0 0 29 2 *":     {Minutes: 1, Hours: 1, Days: 1 << 29, Months: 1 << 2, Weekdays: allWeekdays, AnyWeekday: true},
		"0 0 * dec sat":  {Minutes: 1, Hours: 1, Days: allDays, Months: 1 << 12, Weekdays: 1 << 6, AnyDay: true},
		"*/15 9-17/4 1,15 jan-mar mon-fri": {
			Minutes: bits(0, 15, 30, 45), Hours: bits(9, 13, 17), Days: bits(1, 15), Months: bits(1, 2, 3), Weekdays: bits(1, 2, 3, 4, 5),
		},
		"5,5,5-7,*/30 23,0 31-31 2,apr-6,*/11 sun,7,3": {
			Minutes: bits(0, 5, 6, 7, 30), Hours: bits(0, 23), Days: bits(31), Months: bits(1, 2, 4, 5, 6, 12), Weekdays: bits(0, 3),
		},
	} {
		if e, f := cron.Parse(s); e != want || f != api.OK {
			t.Errorf("Parse(%q): %v, %d, not %v", s, e, f, want)
		}
	}
}

func TestParseNumbers(t *testing.T) {
	for place, b := range bounds {
		for n := range 100 {
			texts := []string{strconv.Itoa(n)}
			if n < 10 {
				texts = append(texts, "0"+texts[0])
			}
			for _, s := range texts {
				if n < b[0] || n > b[1] {
					refused(t, at(place, s), api.ErrRange)
				} else {
					field(t, place, s, sundays(place, 1<<n), false)
				}
			}
		}
		for _, s := range []string{"100", "000", "005", "0005", "010", "256", "4294967297", "18446744073709551617"} {
			refused(t, at(place, s), api.ErrForm)
		}
	}
}

func TestParseRanges(t *testing.T) {
	for place, b := range bounds {
		for one := range 64 {
			for two := range 64 {
				s := strconv.Itoa(one) + "-" + strconv.Itoa(two)
				if one < b[0] || two > b[1] || one > two {
					refused(t, at(place, s), api.ErrRange)
				} else {
					field(t, place, s, sundays(place, span(one, two, 1)), false)
				}
			}
		}
	}
}

func TestParseSteps(t *testing.T) {
	for place, b := range bounds {
		middle := (b[0] + b[1]) / 2
		for step := range 100 {
			s := "/" + strconv.Itoa(step)
			spans := map[string][2]int{
				"*":                        b,
				strconv.Itoa(b[0]) + "-05": {b[0], 5},
				strconv.Itoa(middle) + "-" + strconv.Itoa(b[1]):   {middle, b[1]},
				strconv.Itoa(b[1]) + "-" + strconv.Itoa(b[1]):     {b[1], b[1]},
				strconv.Itoa(b[0]+1) + "-" + strconv.Itoa(b[1]-1): {b[0] + 1, b[1] - 1},
			}
			for text, ends := range spans {
				if step < 1 || step > 60 {
					refused(t, at(place, text+s), api.ErrRange)
				} else {
					field(t, place, text+s, sundays(place, span(ends[0], ends[1], step)), false)
				}
			}
		}
		field(t, place, "*/02", sundays(place, span(b[0], b[1], 2)), false)
		for _, s := range []string{"*/100", "*/060", "*/001", "*/", "*/*", "*/1-2", "*/1/1", "1-2/", "1-2/1/", "*//1", "*/-1", "*/+1", "*/ ", "/", "/1", "*/x"} {
			refused(t, at(place, s), api.ErrForm)
		}
		refused(t, at(place, "*/00"), api.ErrRange)
		// A number alone has nothing to step over.
		for _, s := range []string{"1/1", "1/2", "5/60", "1/0", "1/99", "99/1", "01/2", "2,1/2", "1/2,2"} {
			refused(t, at(place, s), api.ErrForm)
		}
	}
	for _, s := range []string{"jan/1", "dec/60", "*/jan", "jan-dec/feb", "*/dec"} {
		refused(t, at(3, s), api.ErrForm)
	}
	for _, s := range []string{"sun/1", "sat/7", "*/mon", "sun-sat/tue", "*/sun"} {
		refused(t, at(4, s), api.ErrForm)
	}
}

func TestParseNames(t *testing.T) {
	lists := [5][]string{3: monthNames, 4: dayNames}
	for place, b := range bounds {
		for _, names := range lists {
			for i, name := range names {
				if len(lists[place]) != len(names) {
					refused(t, at(place, name), api.ErrForm)
					continue
				}
				first := b[0] + i
				field(t, place, name, 1<<first, false)
				for j, other := range names {
					last := b[0] + j
					numbered := name + "-" + strconv.Itoa(last)
					if j < i {
						refused(t, at(place, name+"-"+other), api.ErrRange)
						refused(t, at(place, numbered), api.ErrRange)
						continue
					}
					field(t, place, name+"-"+other, span(first, last, 1), false)
					field(t, place, name+"-"+other+"/2", span(first, last, 2), false)
					field(t, place, numbered, span(first, last, 1), false)
					field(t, place, strconv.Itoa(first)+"-"+other, span(first, last, 1), false)
					field(t, place, other+","+name, 1<<first|1<<last, false)
				}
			}
		}
		for _, s := range []string{"foo", "Jan", "JAN", "jAn", "Mon", "MON", "suN", "ja", "su", "j", "s", "janu", "january", "sund", "sunday", "jan ", "anf", "ebm", "ecj", "unm", "onT", "ats", "unmo", "janfeb", "sunmon", "ja1", "1an", "fe2", "m0n", "jan1", "1jan", "janjan", "тue", "...", "\x00\x00\x00", "jan-", "-jan", "mon-", "-mon", "feb-*", "mon-*", "mär"} {
			refused(t, at(place, s), api.ErrForm)
		}
	}
}

func TestParseSundays(t *testing.T) {
	for s, b := range map[string]uint64{
		"0": 1, "7": 1, "07": 1, "0,7": 1, "7,0": 1, "sun": 1, "sun,7": 1, "7-7": 1, "7-7/3": 1,
		"0-7": allWeekdays, "sun-7": allWeekdays, "1-7": allWeekdays, "mon-7": allWeekdays, "0-6": allWeekdays, "sun-sat": allWeekdays,
		"5-7": bits(0, 5, 6), "fri-7": bits(0, 5, 6), "sat-7": bits(0, 6), "6-7": bits(0, 6),
		"1-7/2": bits(0, 1, 3, 5), "1-7/6": bits(0, 1), "2-7/2": bits(2, 4, 6), "3-7/4": bits(0, 3),
		"*/2": bits(0, 2, 4, 6), "*/7": 1, "*/8": 1, "*/5": bits(0, 5), "*/1": allWeekdays,
	} {
		field(t, 4, s, b, false)
	}
	field(t, 4, "*", allWeekdays, true)
	for _, s := range []string{"7-0", "7-1", "7-6", "7-sun", "sat-sun", "fri-mon", "6-0", "mon-sun", "sat-0", "8", "0-8", "7-8", "8-8", "08", "sun-8", "mon-08"} {
		refused(t, at(4, s), api.ErrRange)
	}
}

// TestParseAny: just * is told apart from all values written in other ways.
func TestParseAny(t *testing.T) {
	all := [5]uint64{allMinutes, allHours, allDays, allMonths, allWeekdays}
	for place, b := range bounds {
		whole := strconv.Itoa(b[0]) + "-" + strconv.Itoa(b[1])
		field(t, place, "*", all[place], true)
		for _, s := range []string{"*/1", "*/01", "*,*", "*,2", "2,*", "*,*/2", whole, whole + "/1", whole + ",*"} {
			field(t, place, s, all[place], false)
		}
	}
	for s, want := range map[string][2]bool{"* * * * *": {true, true}, "* * 1 * *": {false, true}, "* * * * 1": {true, false}, "* * 1 * 1": {}, "1 1 * 1 *": {true, true}, "* * */2 * */2": {}} {
		e := parsed(t, s)
		if e.AnyDay != want[0] || e.AnyWeekday != want[1] {
			t.Errorf("Parse(%q): %v, %v", s, e.AnyDay, e.AnyWeekday)
		}
	}
}

func TestParseForms(t *testing.T) {
	for place := range bounds {
		for _, s := range []string{
			"", ",", "1,", ",1", "1,,2", ",,", "-", "1-", "-1", "--", "1--2", "1-2-3", "1-2-", "-1-2", "1-*", "*-1", "*-*", "**", "*1", "1*", "*2/3",
			"+1", "1+2", "x", "1x", "x1", "0x1", "1.0", "1;2", "1 ", "1\t", "\t", "\n", "1\n", "\x00", "1\x00", "\xff", "?", "@daily", "L", "1l", "1#2", "1_0",
			"１", "٣", "1–2", "²", "1\u00a0", "a", ":", "/", "!", "9:", "9/", "1-9:", "1e", "~", "1~2", "*~", "\u2217",
		} {
			refused(t, at(place, s), api.ErrForm)
		}
	}
	for _, s := range []string{
		"", " ", "  ", "    ", "     ", "*", "* *", "* * *", "* * * *", "* * * * * *", "* * * * * * *", " * * * * *", "* * * * * ", " * * * * * ", " * * * *", "* * * * ",
		"*  * * * *", "*  * * *", "* * *  * *", "*\t* * * *", "*\t*\t*\t*\t*", "*\n* * * *", "* * * * *\n", "*,*,*,*,*", "@daily", "@yearly", "*****", "- - - - -", "\x00", "* * * * *\x00", "* * * *\u00a0*",
	} {
		refused(t, s, api.ErrForm)
	}
	// Each sign alone.
	for c := range 256 {
		s := string([]byte{byte(c)})
		for place, b := range bounds {
			switch {
			case s == "*":
			case s >= "0" && s <= "9":
				if n := c - '0'; n < b[0] || n > b[1] {
					refused(t, at(place, s), api.ErrRange)
				}
			default:
				refused(t, at(place, s), api.ErrForm)
				refused(t, at(place, "1"+s), api.ErrForm)
				refused(t, at(place, s+"1"), api.ErrForm)
				refused(t, at(place, "*/"+s), api.ErrForm)
				refused(t, at(place, "*/1"+s), api.ErrForm)
			}
		}
	}
}

// long is "0,* * * * *", or "00,* * * * *", with more of the same behind it, up to so many bytes.
func long(n int) string {
	zeros := "00"[n%2:]
	return zeros + strings.Repeat(",*", (n-9)/2) + " * * * *"
}

func TestParseLong(t *testing.T) {
	for n := 10; n <= 128; n++ {
		if e := parsed(t, long(n)); len(long(n)) != n || e != each && n > 10 {
			t.Errorf("Parse of %d bytes: %q, %v", n, long(n), e)
		}
	}
	for _, n := range []int{129, 130, 131, 192, 255, 256, 257, 300, 512, 65536, 65537, 1 << 20} {
		refused(t, long(n), api.ErrLong)
		// ErrLong is asked ahead of the form and of ranges.
		refused(t, strings.Repeat("x", n), api.ErrLong)
		refused(t, strings.Repeat(" ", n), api.ErrLong)
		refused(t, strings.Repeat("99", n), api.ErrLong)
		refused(t, "99 * * * "+strings.Repeat("*,", n), api.ErrLong)
	}
	refused(t, strings.Repeat("x", 128), api.ErrForm)
	refused(t, "99"+strings.Repeat(",9", 59)+" * * *", api.ErrForm)
	refused(t, "99"+strings.Repeat(",9", 59)+" * * * 9", api.ErrRange)
	// Bytes are counted, not signs.
	refused(t, strings.Repeat("ä", 64), api.ErrForm)
	refused(t, strings.Repeat("ä", 65), api.ErrLong)
	refused(t, strings.Repeat("ä", 64)+"x", api.ErrLong)
}

// TestParseOrder: of what isn't of the form, and what is out of range, the first one is told.
func TestParseOrder(t *testing.T) {
	for _, s := range []string{
		"60 x * * *", "60 * * * x", "60,x * * * *", "60, * * * *", "*/0,x * * * *", "*/61 x * * *", "2-1,x * * * *", "* 24 x * *", "* * 0 x *", "* * 32,x * *", "* * * 13 x", "* * * 0 foo", "* * * * 8,x", "* * * * 8,", "* * * * 0,9,foo",
		"60  * * *", "99-1,1-1-1 * * * *", "1,60,1/2 * * * *", "* 0-24/2 */ * *", "60 * * * ", "1-61/61,x * * * *",
	} {
		refused(t, s, api.ErrRange)
	}
	for _, s := range []string{
		"x 60 * * *", "x * * * 8", "x,60 * * * *", ",60 * * * *", "x,*/0 * * * *", "* x 32 * *", "* * * foo 8", "* * * * x,8", "1/2,60 * * * *",
		// A part is read up to its end first.
		"60x * * * *", "60/1 * * * *", "99/0 * * * *", "60-x * * * *", "60- * * * *", "60-61- * * * *", "2-1x * * * *", "2-1/ * * * *", "2-1/x * * * *", "2-1/100 * * * *", "60-61/2/3 * * * *", "*/0x * * * *", "*/61/ * * * *", "0-60/x * * * *", "99-0-1 * * * *", "* * * 13-foo *", "* * * dec-jan/x *", "* * * * 8-foo", "* * * * sat-sun-mon", "* * * * 9/9",
		// How many fields there are is asked ahead of both.
		"60", "60 * * *", "99 99 99 99", "60 * * * * *", "99 99 99 99 99 99", "*/0 * * *", "2-1 * * * * *", " 60 * * * *", "60 * * * * ", "",
	} {
		refused(t, s, api.ErrForm)
	}
}

// TestParseTwoFaults lays faults into two places, and holds the answer against the one that stands first.
func TestParseTwoFaults(t *testing.T) {
	wrong := map[string]api.Errno{"99": api.ErrRange, "5-4": api.ErrRange, "*/0": api.ErrRange, "*/99": api.ErrRange, "1-99": api.ErrRange, "x": api.ErrForm, "": api.ErrForm, "1/2": api.ErrForm, "99/2": api.ErrForm, "99-": api.ErrForm, "*/0*": api.ErrForm}
	for one, e := range wrong {
		for two := range wrong {
			for place := range bounds {
				refused(t, at(place, one+","+two), e)
				refused(t, at(place, "1,*,"+one+",1,"+two+",3"), e)
				for other := place + 1; other < len(bounds); other++ {
					texts := strings.Split(at(place, one), " ")
					texts[other] = two
					refused(t, strings.Join(texts, " "), e)
				}
			}
		}
	}
}

// Another reader of the form, by regular expressions.
var (
	digits  = `([0-9][0-9]?)`
	months  = `([0-9][0-9]?|` + strings.Join(monthNames, "|") + `)`
	weekday = `([0-9][0-9]?|` + strings.Join(dayNames, "|") + `)`
	forms   [5]*regexp.Regexp
)

func init() {
	for place, n := range []string{digits, digits, digits, months, weekday} {
		forms[place] = regexp.MustCompile(`^(?:` + n + `|(?:(\*)|` + n + `-` + n + `)(?:/([0-9][0-9]?))?)$`)
	}
}

// value is a number's, or a name's.
func value(place int, s string) int {
	for i, name := range [][]string{3: monthNames, 4: dayNames}[place] {
		if s == name {
			return bounds[place][0] + i
		}
	}
	n, _ := strconv.Atoi(s)
	return n
}

// readPart is a part, by that reader.
func readPart(place int, s string) (uint64, api.Errno) {
	m := forms[place].FindStringSubmatch(s)
	if m == nil {
		return 0, api.ErrForm
	}
	low, high := bounds[place][0], bounds[place][1]
	first, last, step := low, high, 1
	switch {
	case m[1] != "":
		first = value(place, m[1])
		last = first
	case m[2] == "":
		first, last = value(place, m[3]), value(place, m[4])
	}
	if m[5] != "" {
		step = value(0, m[5])
	}
	if first < low || first > high || last < low || last > high || first > last || step == 0 || step > 60 {
		return 0, api.ErrRange
	}
	return span(first, last, step), api.OK
}

// read is an expression, by that reader.
func read(s string) (cron.Expr, api.Errno) {
	if len(s) > 128 {
		return cron.Expr{}, api.ErrLong
	}
	texts := strings.Split(s, " ")
	if len(texts) != 5 {
		return cron.Expr{}, api.ErrForm
	}
	var all [5]uint64
	for place, field := range texts {
		for _, one := range strings.Split(field, ",") {
			b, e := readPart(place, one)
			if e != api.OK {
				return cron.Expr{}, e
			}
			all[place] |= sundays(place, b)
		}
	}
	return cron.Expr{Minutes: all[0], Hours: all[1], Days: all[2], Months: all[3], Weekdays: all[4], AnyDay: texts[2] == "*", AnyWeekday: texts[4] == "*"}, api.OK
}

// same holds both readers against each other.
func same(t *testing.T, s string) api.Errno {
	t.Helper()
	want, f := read(s)
	if e, g := cron.Parse(s); e != want || g != f {
		t.Fatalf("Parse(%q): %v, %d, not %v, %d", s, e, g, want, f)
	}
	return f
}

// TestParseAllShort is of all short texts of some signs as each of the fields.
func TestParseAllShort(t *testing.T) {
	const signs = "0126*/-,x "
	texts := []string{""}
	for from, n := 0, 0; n < 5; n++ {
		to := len(texts)
		for ; from < to; from++ {
			for _, c := range signs {
				texts = append(texts, texts[from]+string(c))
			}
		}
	}
	for place := range bounds {
		for _, s := range texts {
			same(t, at(place, s))
		}
	}
}

// anyPart is a part, as often as not one that may be.
func anyPart(r *rand.Rand, place int) string {
	number := func() string {
		names := [][]string{3: monthNames, 4: dayNames}[place]
		b := bounds[place]
		switch r.Intn(12) {
		case 0:
			return strconv.Itoa(r.Intn(100))
		case 1, 2:
			if names != nil {
				return names[r.Intn(len(names))]
			}
		case 3:
			return "0" + strconv.Itoa(r.Intn(10))
		}
		return strconv.Itoa(b[0] + r.Intn(b[1]-b[0]+1))
	}
	s := "*"
	if r.Intn(3) > 0 {
		s = number()
		if r.Intn(2) == 0 {
			return s
		}
		s += "-" + number()
	}
	if r.Intn(2) == 0 {
		s += "/" + strconv.Itoa(r.Intn(63))
	}
	return s
}

// anyText is an expression, as often as not one that may be.
func anyText(r *rand.Rand) string {
	texts := make([]string, 5)
	for place := range texts {
		texts[place] = anyPart(r, place)
		for r.Intn(3) == 0 {
			texts[place] += "," + anyPart(r, place)
		}
	}
	return strings.Join(texts, " ")
}

func TestParseAnyText(t *testing.T) {
	r := rand.New(rand.NewSource(71))
	told := map[api.Errno]int{}
	for i := range 200000 {
		s := anyText(r)
		if i%4 == 0 {
			// One byte is another one, or away.
			b := []byte(s)
			at := r.Intn(len(b))
			if r.Intn(2) == 0 {
				b[at] = "0123456789*/-, jansumx"[r.Intn(22)]
			} else {
				b = append(b[:at], b[at+1:]...)
			}
			s = string(b)
		}
		told[same(t, s)]++
	}
	for _, e := range []api.Errno{api.OK, api.ErrForm, api.ErrRange} {
		if told[e] < 1000 {
			t.Errorf("%d: %d times", e, told[e])
		}
	}
}

// P7.1: Text

func TestText(t *testing.T) {
	for s, want := range map[string]string{
		"* * * * *":                        "* * * * *",
		"0 12 1 * mon":                     "0 12 1 * 1",
		"*/15 9-17/4 1,15 jan-mar mon-fri": "0,15,30,45 9,13,17 1,15 1,2,3 1,2,3,4,5",
		"07 09 01 jan sun":                 "7 9 1 1 0",
		"59 23 31 dec sat":                 "59 23 31 12 6",
		"3,1,2,1 5,4,10 * * *":             "1,2,3 4,5,10 * * *",
		"0-59 0-23 * 1-12 *":               "* * * * *",
		"*/1 */1 * jan-dec *":              "* * * * *",
		"*,5 0,* * *,3 *":                  "* * * * *",
		"0 0 1-31 1 0-6":                   "0 0 1,2,3,4,5,6,7,8,9,10,11,12,13,14,15,16,17,18,19,20,21,22,23,24,25,26,27,28,29,30,31 1 0,1,2,3,4,5,6",
		"0 0 */1 1 *":                      "0 0 1,2,3,4,5,6,7,8,9,10,11,12,13,14,15,16,17,18,19,20,21,22,23,24,25,26,27,28,29,30,31 1 *",
		"0 0 * 1 1-7":                      "0 0 * 1 0,1,2,3,4,5,6",
		"* * * * */2":                      "* * * * 0,2,4,6",
		"* 0-22 * 2-12 fri-7":              "* 0,1,2,3,4,5,6,7,8,9,10,11,12,13,14,15,16,17,18,19,20,21,22 * 2,3,4,5,6,7,8,9,10,11,12 0,5,6",
	} {
		if got := parsed(t, s).Text(); got != want {
			t.Errorf("Parse(%q), Text: %q, not %q", s, got, want)
		}
	}
}

// written is a list of all numbers from one to another, with commas between.
func written(first, last int) string {
	var texts []string
	for n := first; n <= last; n++ {
		texts = append(texts, strconv.Itoa(n))
	}
	return strings.Join(texts, ",")
}

// TestTextAnyExpr is of expressions that no text is parsed to.
func TestTextAnyExpr(t *testing.T) {
	for _, c := range []struct {
		e    cron.Expr
		want string
	}{
		{cron.Expr{}, "- - - - -"},
		{cron.Expr{AnyDay: true}, "- - * - -"},
		{cron.Expr{AnyWeekday: true}, "- - - - *"},
		{cron.Expr{AnyDay: true, AnyWeekday: true}, "- - * - *"},
		{cron.Expr{AnyDay: true, Days: 1 << 5, Weekdays: 1 << 5}, "- - * - 5"},
		{cron.Expr{AnyWeekday: true, Days: 1 << 5, Weekdays: 1 << 5}, "- - 5 - *"},
		{cron.Expr{Minutes: 1 << 60, Hours: 1 << 24, Days: 1 << 32, Months: 1 << 13, Weekdays: 1 << 7}, "60 24 32 13 7"},
		{cron.Expr{Minutes: 1 << 63, Hours: 1 << 63, Days: 1 << 63, Months: 1 << 63, Weekdays: 1 << 63}, "63 63 63 63 63"},
		{cron.Expr{Minutes: 1, Hours: 1, Days: 1, Months: 1, Weekdays: 1}, "0 0 0 0 0"},
		{cron.Expr{Minutes: allMinutes, Hours: allHours, Days: allDays, Months: allMonths, Weekdays: allWeekdays}, "* * " + written(1, 31) + " * " + written(0, 6)},
		{cron.Expr{Minutes: allMinutes | 1<<60, Hours: allHours | 1<<24, Days: allDays | 1, Months: allMonths | 1, Weekdays: allWeekdays | 1<<7}, written(0, 60) + " " + written(0, 24) + " " + written(0, 31) + " " + written(0, 12) + " " + written(0, 7)},
		{cron.Expr{Minutes: allMinutes &^ 1, Hours: allHours &^ 1, Days: allDays &^ 2, Months: allMonths &^ 2, Weekdays: allWeekdays &^ 1}, written(1, 59) + " " + written(1, 23) + " " + written(2, 31) + " " + written(2, 12) + " " + written(1, 6)},
		{cron.Expr{Minutes: allMinutes >> 1, Hours: allHours >> 1, Months: allMonths & (1<<12 - 1)}, written(0, 58) + " " + written(0, 22) + " - " + written(1, 11) + " -"},
		{cron.Expr{Minutes: allMinutes | 1<<63, Hours: allHours | 1<<63, Months: allMonths | 1<<13}, written(0, 59) + ",63 " + written(0, 23) + ",63 - " + written(1, 13) + " -"},
		{cron.Expr{Minutes: math.MaxUint64, Hours: math.MaxUint64, Days: math.MaxUint64, Months: math.MaxUint64, Weekdays: math.MaxUint64}, strings.Repeat(written(0, 63)+" ", 4) + written(0, 63)},
		{cron.Expr{Minutes: math.MaxUint64, Hours: math.MaxUint64, Days: math.MaxUint64, Months: math.MaxUint64, Weekdays: math.MaxUint64, AnyDay: true, AnyWeekday: true}, written(0, 63) + " " + written(0, 63) + " * " + written(0, 63) + " *"},
	} {
		if got := c.e.Text(); got != c.want {
			t.Errorf("Text of %v: %q, not %q", c.e, got, c.want)
		}
	}
}

// P7.1: Names, At

// named holds Names, and At, of a moment against what is asked.
func named(t *testing.T, s string, want bool, moments ...calendar.Moment) {
	t.Helper()
	e := parsed(t, s)
	for _, m := range moments {
		tick, f := calendar.Tick(m)
		m, g := calendar.Of(tick)
		if f != api.OK || g != api.OK {
			t.Fatalf("%v: %d, %d", m, f, g)
		}
		if e.Names(m) != want || e.At(tick) != want {
			t.Errorf("%q: %s: %v, %v", s, calendar.Text(tick), e.Names(m), e.At(tick))
		}
	}
}

// when is a moment of the year 2024, whose 1st of January was a Monday.
func when(month, day, hour, minute int) calendar.Moment {
	return calendar.Moment{Year: 2024, Month: month, Day: day, Hour: hour, Minute: minute}
}

func TestNamed(t *testing.T) {
	// Both the day and the weekday are of some: either will do.
	named(t, "0 12 1 * mon", true, when(1, 1, 12, 0), when(1, 8, 12, 0), when(2, 1, 12, 0), when(2, 5, 12, 0), when(12, 1, 12, 0), when(4, 1, 12, 0))
	named(t, "0 12 1 * mon", false, when(1, 2, 12, 0), when(1, 7, 12, 0), when(2, 1, 12, 1), when(2, 1, 11, 0), when(1, 8, 0, 12), when(2, 2, 12, 0), when(12, 31, 12, 0))
	named(t, "0 12 */2 * */2", true, when(1, 1, 12, 0), when(1, 2, 12, 0), when(1, 3, 12, 0), when(1, 4, 12, 0), when(1, 5, 12, 0), when(1, 6, 12, 0))
	named(t, "0 12 */2 * */2", false, when(1, 8, 12, 0), when(1, 10, 12, 0), when(1, 12, 12, 0), when(2, 2, 12, 0))
	named(t, "* * 1-31 * mon", true, when(1, 1, 0, 0), when(1, 2, 0, 0), when(2, 29, 0, 0))
	named(t, "* * 13 * 0-7", true, when(1, 1, 0, 0), when(1, 2, 0, 0), when(2, 29, 0, 0))
	// One of both is just *: both must be so.
	named(t, "0 12 * * mon", true, when(1, 1, 12, 0), when(1, 8, 12, 0), when(2, 5, 12, 0))
	named(t, "0 12 * * mon", false, when(1, 2, 12, 0), when(2, 1, 12, 0), when(1, 7, 12, 0), when(1, 8, 12, 1))
	named(t, "0 12 13 * *", true, when(1, 13, 12, 0), when(9, 13, 12, 0))
	named(t, "0 12 13 * *", false, when(1, 1, 12, 0), when(1, 14, 12, 0), when(1, 12, 12, 0))
	named(t, "* * * * *", true, when(1, 1, 0, 0), when(2, 29, 23, 59), when(12, 31, 13, 7))
	// Sundays, by each of their names.
	for _, s := range []string{"0 0 * * 0", "0 0 * * 7", "0 0 * * sun", "0 0 * * 7-7", "0 0 * * */7"} {
		named(t, s, true, when(1, 7, 0, 0), when(1, 14, 0, 0), when(12, 29, 0, 0))
		named(t, s, false, when(1, 1, 0, 0), when(1, 6, 0, 0), when(1, 8, 0, 0), when(1, 7, 0, 1))
	}
	// Each field is asked.
	named(t, "30 6 5 7 *", true, when(7, 5, 6, 30))
	named(t, "30 6 5 7 *", false, when(7, 5, 6, 29), when(7, 5, 6, 31), when(7, 5, 5, 30), when(7, 5, 7, 30), when(7, 4, 6, 30), when(7, 6, 6, 30), when(6, 5, 6, 30), when(8, 5, 6, 30))
	named(t, "30 6 5 7 fri", true, when(7, 5, 6, 30), when(7, 12, 6, 30), when(7, 19, 6, 30))
	named(t, "30 6 5 7 fri", false, when(7, 12, 6, 29), when(7, 12, 7, 30), when(8, 2, 6, 30), when(6, 5, 6, 30), when(7, 13, 6, 30))
	named(t, "0 0 29 2 *", true, when(2, 29, 0, 0), calendar.Moment{Year: 2000, Month: 2, Day: 29}, calendar.Moment{Year: 2092528, Month: 2, Day: 29})
	named(t, "0 0 29 2 *", false, when(3, 29, 0, 0), when(2, 28, 0, 0), calendar.Moment{Year: 2023, Month: 3, Day: 1})
}

func TestAtOutside(t *testing.T) {
	full := cron.Expr{Minutes: math.MaxUint64, Hours: math.MaxUint64, Days: math.MaxUint64, Months: math.MaxUint64, Weekdays: math.MaxUint64}
	// The zero moment, which calendar answers beside an error, is named by this one.
	for _, e := range []cron.Expr{each, full, {Minutes: 1, Hours: 1, Days: 1, Months: 1, Weekdays: 1}} {
		for _, tick := range []int64{-1, -2, -60, -minutes, math.MinInt32, -1 << 40, math.MinInt64, math.MinInt64 + 1, 1<<40 + 1, 1<<40 + minutes, 1 << 41, 1 << 62, math.MaxInt64} {
			if e.At(tick) {
				t.Errorf("%v: At(%d)", e, tick)
			}
		}
	}
	for _, e := range []cron.Expr{each, full} {
		for _, tick := range []int64{0, 1, minutes, math.MaxInt32, 1 << 39, 1<<40 - 1, 1 << 40} {
			if !e.At(tick) {
				t.Errorf("%v: not At(%d)", e, tick)
			}
		}
	}
	if e := parsed(t, "16 12 9 3 tue"); !e.At(1<<40) || e.At(1<<40-1) {
		t.Error("At the last tick")
	}
	if e := parsed(t, "0 0 1 1 *"); !e.At(0) || e.At(1) {
		t.Error("At the first tick")
	}
}

// TestNamesAnyMoment is of moments that there are not: those beyond a field's bounds aren't in it.
func TestNamesAnyMoment(t *testing.T) {
	full := cron.Expr{Minutes: math.MaxUint64, Hours: math.MaxUint64, Days: math.MaxUint64, Months: math.MaxUint64, Weekdays: math.MaxUint64, AnyDay: true}
	good := when(1, 1, 0, 0)
	for _, e := range []cron.Expr{each, full} {
		for _, n := range []int{-1, -2, -64, math.MinInt, math.MinInt + 1, math.MinInt32, 64, 65, 128, 256, 1 << 32, 1<<32 + 1, math.MaxInt} {
			for i := range 5 {
				m := good
				*[]*int{&m.Minute, &m.Hour, &m.Day, &m.Month, &m.Weekday}[i] = n
				if e.Names(m) {
					t.Errorf("%v: Names(%v)", e, m)
				}
			}
		}
		if !e.Names(good) {
			t.Errorf("%v: not Names(%v)", e, good)
		}
	}
	for _, m := range []calendar.Moment{{}, {Month: 13, Day: 1}, {Month: 0, Day: 1}, {Month: 1, Day: 32}, {Month: 1, Day: 0}, {Month: 1, Day: 1, Hour: 24}, {Month: 1, Day: 1, Minute: 60}, {Month: 1, Day: 1, Weekday: 7}} {
		if each.Names(m) {
			t.Errorf("each: Names(%v)", m)
		}
	}
	if (cron.Expr{}).Names(good) || (cron.Expr{AnyDay: true, AnyWeekday: true}).Names(good) || (cron.Expr{}).At(0) {
		t.Error("none: Names")
	}
}

// within is whether a number is among the values that a field of a text tells.
func within(text string, n int) bool {
	if text == "*" {
		return true
	}
	for _, one := range strings.Split(text, ",") {
		if one == strconv.Itoa(n) {
			return true
		}
	}
	return false
}

// said is whether an expression's text names a tick, by the words of the chapter.
func said(text string, tick int64) bool {
	m, e := calendar.Of(tick)
	f := strings.Split(text, " ")
	if e != api.OK || !within(f[0], m.Minute) || !within(f[1], m.Hour) || !within(f[3], m.Month) {
		return false
	}
	if f[2] == "*" || f[4] == "*" {
		return within(f[2], m.Day) && within(f[4], m.Weekday)
	}
	return within(f[2], m.Day) || within(f[4], m.Weekday)
}

func TestNamedAnyText(t *testing.T) {
	r := rand.New(rand.NewSource(72))
	hits := 0
	for range 20000 {
		e, f := cron.Parse(anyText(r))
		if f != api.OK {
			continue
		}
		text := e.Text()
		for i := range 60 {
			tick := r.Int63n(api.MaxTick+1) >> r.Intn(40)
			if i%2 == 0 {
				// Near what is in most fields, that the others are asked too.
				tick = tick/minutes*minutes + 60*int64(i%24) + int64(i)
			}
			want := said(text, tick)
			m, _ := calendar.Of(tick)
			if e.At(tick) != want || e.Names(m) != want {
				t.Fatalf("%q: %s: %v, %v", text, calendar.Text(tick), e.At(tick), e.Names(m))
			}
			if want {
				hits++
			}
		}
	}
	if hits < 1000 {
		t.Errorf("%d are named", hits)
	}
}

// P7.2

// anyBits is some of all values, at least one.
func anyBits(r *rand.Rand, all uint64) uint64 {
	b := all
	for range r.Intn(5) {
		b &= r.Uint64()
	}
	if b &= all; b == 0 {
		return all &^ (all - 1)
	}
	return b
}

func TestTextParsed(t *testing.T) {
	r := rand.New(rand.NewSource(73))
	short, long := 0, 0
	for range 100000 {
		e := cron.Expr{Minutes: anyBits(r, allMinutes), Hours: anyBits(r, allHours), Days: anyBits(r, allDays), Months: anyBits(r, allMonths), Weekdays: anyBits(r, allWeekdays)}
		if r.Intn(3) == 0 {
			e.Days, e.AnyDay = allDays, true
		}
		if r.Intn(3) == 0 {
			e.Weekdays, e.AnyWeekday = allWeekdays, true
		}
		text := e.Text()
		got, f := cron.Parse(text)
		// No text of more than 128 bytes is parsed, of an expression neither.
		if len(text) > 128 {
			long++
			if f != api.ErrLong {
				t.Fatalf("%v: %q: %d", e, text, f)
			}
			continue
		}
		short++
		if got != e || f != api.OK || got.Text() != text {
			t.Fatalf("%v: %q: %v, %d", e, text, got, f)
		}
	}
	if short < 1000 || long < 1000 {
		t.Errorf("%d, %d", short, long)
	}
}

func TestParsedTextParsed(t *testing.T) {
	r := rand.New(rand.NewSource(74))
	for range 50000 {
		e, f := cron.Parse(anyText(r))
		if f != api.OK || len(e.Text()) > 128 {
			continue
		}
		if got, g := cron.Parse(e.Text()); got != e || g != api.OK {
			t.Fatalf("%v: %q: %v, %d", e, e.Text(), got, g)
		}
	}
}

func TestEmptyTextNotParsed(t *testing.T) {
	for i := range 5 {
		e := with(i, 0, false)
		refused(t, e.Text(), api.ErrForm)
	}
	refused(t, cron.Expr{}.Text(), api.ErrForm)
}

// TestSameAgain: what is handed in stays as it is, and what was told ahead doesn't count.
func TestSameAgain(t *testing.T) {
	bytes := []byte("*/15 9-17/4 1,15 jan-mar mon-fri")
	s := string(bytes)
	e := parsed(t, s)
	text := e.Text()
	refused(t, "60 * * * *", api.ErrRange)
	parsed(t, "* * * * *")
	if again := parsed(t, s); again != e || s != string(bytes) || e.Text() != text || again.Text() != text {
		t.Errorf("%v, %q", again, s)
	}
	before := e
	e.Names(when(1, 1, 9, 0))
	e.At(0)
	if e != before {
		t.Errorf("%v", e)
	}
}
