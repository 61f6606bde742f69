package octet_test

import (
	"math"
	"slices"
	"testing"

	"compline/api"
	"compline/octet"
)

func getText(r *octet.Reader) string { return r.Text(99) }

func TestPut(t *testing.T) {
	for _, c := range []struct {
		l    []string
		want []byte
	}{
		{nil, []byte{0}},
		{[]string{}, []byte{0}},
		{[]string{""}, []byte{1, 0}},
		{[]string{"b", "", "a"}, []byte{3, 1, 'b', 0, 1, 'a'}},
	} {
		w := &octet.Writer{}
		w.Num(9)
		octet.Put(w, c.l, (*octet.Writer).Text)
		same(t, "Put", w.Bytes(), append([]byte{9}, c.want...))
	}
	w := &octet.Writer{}
	octet.Put(w, make([]bool, 300), (*octet.Writer).Flag)
	same(t, "Put", w.Bytes(), append([]byte{172, 2}, make([]byte, 300)...))
}

func TestGet(t *testing.T) {
	b := []byte{3, 1, 'b', 0, 1, 'a', 7}
	for _, most := range []int{3, 4, math.MaxInt} {
		r := octet.Read(b)
		if l := octet.Get(r, most, getText); !slices.Equal(l, []string{"b", "", "a"}) || r.Num() != 7 || r.End() != api.OK {
			t.Errorf("Get(%d): %q, %d", most, l, r.End())
		}
	}
	for _, most := range []int{math.MinInt, -1, 0, 9} {
		r := octet.Read([]byte{0})
		if l := octet.Get(r, most, getText); len(l) != 0 || r.End() != api.OK {
			t.Errorf("Get(%d) of none: %q, %d", most, l, r.End())
		}
	}
}

func TestGetErrors(t *testing.T) {
	for _, c := range []struct {
		b    []byte
		most int
		want api.Errno
	}{
		{nil, 9, api.ErrShort},
		{[]byte{128, 0}, 9, api.ErrForm},
		{[]byte{2, 0, 0}, 1, api.ErrLong},
		{[]byte{1, 0}, 0, api.ErrLong},
		{[]byte{1, 0}, -1, api.ErrLong},
		{[]byte{1, 0}, math.MinInt, api.ErrLong},
		{row(255, 9, 1), math.MaxInt, api.ErrLong},
		{[]byte{2, 0}, 2, api.ErrShort},
		{[]byte{2, 1, 'a', 1}, 2, api.ErrShort},
		{[]byte{3, 1, 'a', 100, 0}, 3, api.ErrLong},
		{row(255, 8, 127, 1, 'a'), math.MaxInt, api.ErrShort},
	} {
		r := octet.Read(c.b)
		if l := octet.Get(r, c.most, getText); len(l) != 0 || r.Err() != c.want || r.Left() != 0 {
			t.Errorf("Get(%d) of %v: %q, %d, not %d", c.most, c.b, l, r.Err(), c.want)
		}
	}
}

func TestGetEndsWithTheFirstError(t *testing.T) {
	r := octet.Read([]byte{200, 1, 1, 0, 5, 0, 0, 0})
	calls := 0
	l := octet.Get(r, 1000, func(r *octet.Reader) bool { calls++; return r.Flag() })
	if calls != 3 || len(l) != 0 || r.Err() != api.ErrForm {
		t.Errorf("%d calls, %v, %d", calls, l, r.Err())
	}
}

// pair is a type of the test's own: rows are of any type.
type pair struct {
	name string
	l    []int64
}

func TestRowsOfRows(t *testing.T) {
	want := []pair{{"a", []int64{1, -1, math.MinInt64}}, {"", nil}, {"bc", []int64{0}}}
	b := written(func(w *octet.Writer) {
		octet.Put(w, want, func(w *octet.Writer, p pair) {
			w.Text(p.name)
			octet.Put(w, p.l, (*octet.Writer).Int)
		})
	})
	r := octet.Read(b)
	got := octet.Get(r, 3, func(r *octet.Reader) pair {
		return pair{r.Text(2), octet.Get(r, 3, (*octet.Reader).Int)}
	})
	if r.End() != api.OK || !slices.EqualFunc(got, want, func(a, b pair) bool { return a.name == b.name && slices.Equal(a.l, b.l) }) {
		t.Errorf("%v, %d", got, r.End())
	}
}

func TestWhatIsWrittenIsRead(t *testing.T) {
	w := &octet.Writer{}
	for i := range 64 {
		w.Num(1 << i)
		w.Int(-1 << i)
		w.Text(string(make([]byte, i*5)))
		w.Flag(i%3 == 0)
		octet.Put(w, make([]uint64, i), (*octet.Writer).Num)
	}
	r := octet.Read(w.Bytes())
	for i := range 64 {
		if r.Num() != 1<<i || r.Int() != -1<<i || len(r.Text(315)) != i*5 || r.Flag() != (i%3 == 0) || len(octet.Get(r, 63, (*octet.Reader).Num)) != i {
			t.Fatalf("round %d: %d", i, r.Err())
		}
	}
	if r.End() != api.OK {
		t.Error(int(r.End()))
	}
}

func TestRowsKeepNothing(t *testing.T) {
	l := []uint64{1, 2, 3, 4}
	w := &octet.Writer{}
	octet.Put(w, l[:2], (*octet.Writer).Num)
	if !slices.Equal(l, []uint64{1, 2, 3, 4}) {
		t.Error("what is handed in is changed:", l)
	}
	l[0] = 9
	a := octet.Get(octet.Read(w.Bytes()), 9, (*octet.Reader).Num)
	b := octet.Get(octet.Read(w.Bytes()), 9, (*octet.Reader).Num)
	a[0] = 8
	if !slices.Equal(b, []uint64{1, 2}) {
		t.Error(b)
	}
}

func TestNoFunction(t *testing.T) {
	w := &octet.Writer{}
	w.Num(9)
	octet.Put(w, []int{}, nil)
	octet.Put(w, []int{1, 2}, nil)
	same(t, "Put", w.Bytes(), []byte{9, 0})
	r := octet.Read([]byte{0, 1, 1})
	if l := octet.Get[int](r, 9, nil); len(l) != 0 || r.Err() != api.OK {
		t.Errorf("of none: %v, %d", l, r.Err())
	}
	if l := octet.Get[int](r, 9, nil); len(l) != 0 || r.Err() != api.ErrArg {
		t.Errorf("of one: %v, %d", l, r.Err())
	}
	nothing(t, r, api.ErrArg)
}

func TestPanicsAreCaught(t *testing.T) {
	w := &octet.Writer{}
	w.Num(9)
	octet.Put(w, []string{"a", ""}, func(w *octet.Writer, s string) { w.Text(s); w.Num(uint64(s[0])) })
	w.Num(8)
	same(t, "Put", w.Bytes(), []byte{9, 8})
	first := func(r *octet.Reader) byte { return r.Text(9)[0] }
	for _, c := range []struct {
		b    []byte
		want api.Errno
	}{
		{[]byte{2, 1, 'a', 0, 5}, api.ErrArg},
		{[]byte{2, 1, 'a', 3, 5}, api.ErrShort}, // the first error stays
	} {
		r := octet.Read(c.b)
		if l := octet.Get(r, 9, first); len(l) != 0 {
			t.Error("Get:", l)
		}
		nothing(t, r, c.want)
	}
}
