package octet_test

import (
	"bytes"
	"math"
	"strings"
	"testing"

	"compline/api"
	"compline/octet"
)

func TestReadNum(t *testing.T) {
	for _, n := range numbers {
		r := octet.Read(append(bytes.Clone(n.b), 5))
		if x := r.Num(); x != n.x || r.Err() != api.OK || r.Left() != 1 {
			t.Errorf("Num of %v: %d, %d, left %d", n.b, x, r.Err(), r.Left())
		}
	}
}

func TestReadInt(t *testing.T) {
	for _, n := range signed {
		r := octet.Read(n.b)
		if x := r.Int(); x != n.x || r.End() != api.OK {
			t.Errorf("Int of %v: %d, %d", n.b, x, r.End())
		}
	}
}

func TestReadNumErrors(t *testing.T) {
	for _, c := range []struct {
		b    []byte
		want api.Errno
	}{
		{nil, api.ErrShort},
		{[]byte{128}, api.ErrShort},
		{row(128, 8), api.ErrShort},
		{row(128, 9), api.ErrShort},
		{row(255, 9), api.ErrShort},
		{[]byte{128, 0}, api.ErrForm},
		{[]byte{255, 0}, api.ErrForm},
		{[]byte{128, 128, 0}, api.ErrForm},
		{[]byte{172, 130, 0, 1}, api.ErrForm},
		{row(128, 9, 0), api.ErrForm},
		{row(128, 9, 2), api.ErrForm},
		{row(255, 9, 127), api.ErrForm},
		{row(128, 9, 128), api.ErrForm},
		{row(128, 9, 129), api.ErrForm},
		{row(128, 9, 128, 1), api.ErrForm},
		{row(255, 12), api.ErrForm},
	} {
		for what, read := range map[string]func(*octet.Reader) bool{
			"Num":   func(r *octet.Reader) bool { return r.Num() == 0 },
			"Int":   func(r *octet.Reader) bool { return r.Int() == 0 },
			"Count": func(r *octet.Reader) bool { return r.Count(math.MaxInt) == 0 },
			"Text":  func(r *octet.Reader) bool { return r.Text(math.MaxInt) == "" },
			"Get": func(r *octet.Reader) bool {
				return len(octet.Get(r, math.MaxInt, (*octet.Reader).Flag)) == 0
			},
		} {
			r := octet.Read(c.b)
			if zero := read(r); !zero || r.Err() != c.want {
				t.Errorf("%s of %v: zero %v, %d, not %d", what, c.b, zero, r.Err(), c.want)
			}
		}
	}
}

// Whatever is read as a number is written as just these bytes.
func TestOneFormOfEachNumber(t *testing.T) {
	for i := range 1 << 16 {
		b := []byte{byte(i), byte(i >> 8), 1}
		r := octet.Read(b)
		x := r.Num()
		if r.Err() == api.OK {
			same(t, "Num", written(func(w *octet.Writer) { w.Num(x) }), b[:3-r.Left()])
		} else if r.Err() != api.ErrForm || b[0] < 128 || b[1] != 0 {
			t.Errorf("Num of %v: %d", b, r.Err())
		}
	}
}

func TestReadText(t *testing.T) {
	for _, s := range []string{"", "a", "hi", "\x00\xff", strings.Repeat("x", 300)} {
		r := octet.Read(written(func(w *octet.Writer) { w.Text(s); w.Num(7) }))
		if got := r.Text(len(s)); got != s || r.Num() != 7 || r.End() != api.OK {
			t.Errorf("Text of %q: %q, %d", s, got, r.End())
		}
	}
}

func TestReadTextErrors(t *testing.T) {
	huge := written(func(w *octet.Writer) { w.Num(math.MaxUint64) })
	for _, c := range []struct {
		b    []byte
		most int
		want api.Errno
	}{
		{[]byte{0}, 0, api.OK},
		{[]byte{0}, -1, api.OK},
		{[]byte{0}, math.MinInt, api.OK},
		{[]byte{1, 'a'}, 0, api.ErrLong},
		{[]byte{1, 'a'}, -1, api.ErrLong},
		{[]byte{1, 'a'}, -5, api.ErrLong},
		{[]byte{1, 'a'}, math.MinInt, api.ErrLong},
		{[]byte{2, 'a', 'b'}, 1, api.ErrLong},
		{[]byte{2, 'a'}, 1, api.ErrLong},
		{[]byte{2, 'a'}, 2, api.ErrShort},
		{[]byte{2}, 2, api.ErrShort},
		{[]byte{1}, math.MaxInt, api.ErrShort},
		{huge, math.MaxInt, api.ErrLong},
		{huge, -1, api.ErrLong},
		{row(255, 8, 127), math.MaxInt, api.ErrShort},
	} {
		r := octet.Read(c.b)
		if s := r.Text(c.most); s != "" || r.Err() != c.want || r.Left() != 0 {
			t.Errorf("Text(%d) of %v: %q, %d, not %d", c.most, c.b, s, r.Err(), c.want)
		}
	}
}

func TestReadFlag(t *testing.T) {
	r := octet.Read([]byte{1, 0, 1})
	if !r.Flag() || r.Flag() || !r.Flag() || r.End() != api.OK {
		t.Error("Flag of 1, 0, 1:", r.End())
	}
	for b, want := range map[string]api.Errno{
		"":         api.ErrShort,
		"\x02":     api.ErrForm,
		"\x80":     api.ErrForm,
		"\x81\x00": api.ErrForm,
		"\xff":     api.ErrForm,
	} {
		r := octet.Read([]byte(b))
		if x := r.Flag(); x || r.Err() != want {
			t.Errorf("Flag of %q: %v, %d", b, x, r.Err())
		}
	}
}

func TestReadCount(t *testing.T) {
	for _, c := range []struct {
		x    uint64
		most int
		want api.Errno
	}{
		{0, 0, api.OK},
		{0, -1, api.OK},
		{0, math.MinInt, api.OK},
		{1, 0, api.ErrLong},
		{1, -1, api.ErrLong},
		{1, -5, api.ErrLong},
		{1, math.MinInt, api.ErrLong},
		{300, 299, api.ErrLong},
		{300, 300, api.OK},
		{300, 301, api.OK},
		{math.MaxInt, math.MaxInt, api.OK},
		{math.MaxInt + 1, math.MaxInt, api.ErrLong},
		{math.MaxUint64, math.MaxInt, api.ErrLong},
		{math.MaxUint64, -1, api.ErrLong},
	} {
		r := octet.Read(written(func(w *octet.Writer) { w.Num(c.x) }))
		n := r.Count(c.most)
		if r.Err() != c.want || c.want == api.OK && uint64(n) != c.x || c.want != api.OK && n != 0 {
			t.Errorf("Count(%d) of %d: %d, %d", c.most, c.x, n, r.Err())
		}
	}
}

func TestLeft(t *testing.T) {
	r := octet.Read([]byte{172, 2, 1, 'a', 1})
	left := []int{r.Left()}
	r.Num()
	left = append(left, r.Left())
	r.Text(9)
	left = append(left, r.Left())
	r.Flag()
	left = append(left, r.Left())
	for i, want := range []int{5, 3, 1, 0} {
		if left[i] != want {
			t.Errorf("Left: %v", left)
		}
	}
}

func TestEnd(t *testing.T) {
	r := octet.Read([]byte{1, 2})
	for i, want := range []api.Errno{api.ErrLong, api.ErrLong, api.OK} {
		if e := r.End(); e != want || r.Err() != api.OK || r.Left() != 2-i {
			t.Errorf("End with %d left: %d, %d, left %d", 2-i, e, r.Err(), r.Left())
		}
		if i < 2 && r.Num() != uint64(i+1) {
			t.Error("what End looks at can't be read any more")
		}
	}
	if e := octet.Read(nil).End(); e != api.OK {
		t.Error("End of nothing:", int(e))
	}
}

// nothing tells whether a reader with an error answers nothing, and keeps that error.
func nothing(t *testing.T, r *octet.Reader, e api.Errno) {
	t.Helper()
	called := false
	each := func(r *octet.Reader) int { called = true; return 1 }
	for range 2 {
		if r.Num() != 0 || r.Int() != 0 || r.Flag() || r.Left() != 0 || r.Count(9) != 0 || r.Count(-1) != 0 ||
			r.Text(9) != "" || r.Text(-1) != "" || len(octet.Get(r, 9, each)) != 0 || len(octet.Get[int](r, 9, nil)) != 0 {
			t.Error("something is read behind an error")
		}
		if r.Err() != e || r.End() != e {
			t.Errorf("behind error %d: %d, %d", e, r.Err(), r.End())
		}
	}
	if called {
		t.Error("a row is read behind an error")
	}
}

func TestBehindAnError(t *testing.T) {
	for _, c := range []struct {
		b    []byte
		do   func(*octet.Reader)
		want api.Errno
	}{
		{[]byte{128}, func(r *octet.Reader) { r.Num() }, api.ErrShort},
		{[]byte{128, 0, 1, 1, 1}, func(r *octet.Reader) { r.Int() }, api.ErrForm},
		{row(128, 9, 2, 1, 1, 1, 1), func(r *octet.Reader) { r.Num() }, api.ErrForm},
		{[]byte{3, 1, 1, 1, 1}, func(r *octet.Reader) { r.Text(2) }, api.ErrLong},
		{[]byte{4, 1, 1, 1}, func(r *octet.Reader) { r.Text(4) }, api.ErrShort},
		{[]byte{2, 1, 1, 1, 1}, func(r *octet.Reader) { r.Flag() }, api.ErrForm},
		{[]byte{3, 1, 1, 1, 1}, func(r *octet.Reader) { r.Count(2) }, api.ErrLong},
		{[]byte{3, 1, 1, 1, 1}, func(r *octet.Reader) { octet.Get(r, 2, (*octet.Reader).Num) }, api.ErrLong},
		{[]byte{3, 1, 2, 1, 1}, func(r *octet.Reader) { octet.Get(r, 3, (*octet.Reader).Flag) }, api.ErrForm},
	} {
		r := octet.Read(c.b)
		c.do(r)
		nothing(t, r, c.want)
	}
}

func TestNilReader(t *testing.T) {
	nothing(t, nil, api.ErrArg)
}

func TestReaderKeepsNothing(t *testing.T) {
	b := []byte{1, 'a', 1, 'b', 50, 51}
	r := octet.Read(b[:4])
	first := r.Text(5)
	b[1], b[3] = 'x', 'y'
	if second := r.Text(5); first != "a" || second != "b" || r.End() != api.OK {
		t.Errorf("%q, %q, %d", first, second, r.End())
	}
	same(t, "handed in", b, []byte{1, 'x', 1, 'y', 50, 51})
}
