package octet_test

import (
	"bytes"
	"math"
	"strings"
	"testing"

	"compline/octet"
)

// written is what a writer has behind some calls.
func written(do func(*octet.Writer)) []byte {
	w := &octet.Writer{}
	do(w)
	return w.Bytes()
}

func same(t *testing.T, what string, got, want []byte) {
	t.Helper()
	if !bytes.Equal(got, want) {
		t.Errorf("%s: %v, not %v", what, got, want)
	}
}

// row is n times a byte, and others behind.
func row(b byte, n int, behind ...byte) []byte {
	return append(bytes.Repeat([]byte{b}, n), behind...)
}

// numbers: P1.1, some of each length, and their bytes.
var numbers = []struct {
	x uint64
	b []byte
}{
	{0, []byte{0}},
	{1, []byte{1}},
	{127, []byte{127}},
	{128, []byte{128, 1}},
	{300, []byte{172, 2}},
	{1<<14 - 1, []byte{255, 127}},
	{1 << 14, []byte{128, 128, 1}},
	{1<<32 - 1, []byte{255, 255, 255, 255, 15}},
	{1<<63 - 1, row(255, 8, 127)},
	{1 << 63, row(128, 9, 1)},
	{math.MaxUint64, row(255, 9, 1)},
}

// signed: P1.1, some on both sides of 0, and their bytes.
var signed = []struct {
	x int64
	b []byte
}{
	{0, []byte{0}},
	{-1, []byte{1}},
	{1, []byte{2}},
	{-2, []byte{3}},
	{63, []byte{126}},
	{-64, []byte{127}},
	{64, []byte{128, 1}},
	{-65, []byte{129, 1}},
	{150, []byte{172, 2}},
	{math.MaxInt64, row(254, 1, row(255, 8, 1)...)},
	{math.MinInt64, row(255, 9, 1)},
}

func TestWriteNum(t *testing.T) {
	for _, n := range numbers {
		same(t, "Num", written(func(w *octet.Writer) { w.Num(n.x) }), n.b)
	}
}

func TestWriteInt(t *testing.T) {
	for _, n := range signed {
		same(t, "Int", written(func(w *octet.Writer) { w.Int(n.x) }), n.b)
	}
}

func TestWriteText(t *testing.T) {
	long := strings.Repeat("x", 300)
	for s, want := range map[string][]byte{
		"":         {0},
		"hi":       {2, 'h', 'i'},
		"\x00\xff": {2, 0, 255},
		"\u00e9":   {2, 0xc3, 0xa9},
		long:       append([]byte{172, 2}, long...),
	} {
		same(t, "Text", written(func(w *octet.Writer) { w.Text(s) }), want)
	}
}

func TestWriteFlag(t *testing.T) {
	same(t, "Flag", written(func(w *octet.Writer) { w.Flag(true); w.Flag(false) }), []byte{1, 0})
}

func TestWriteRaw(t *testing.T) {
	same(t, "Raw", written(func(w *octet.Writer) {
		w.Raw([]byte{0, 200, 7})
		w.Raw(nil)
		w.Raw([]byte{})
		w.Raw([]byte{255})
	}), []byte{0, 200, 7, 255})
}

func TestBytesAreAllInOrder(t *testing.T) {
	w := &octet.Writer{}
	same(t, "nothing", w.Bytes(), nil)
	w.Num(300)
	same(t, "one", w.Bytes(), []byte{172, 2})
	w.Text("a")
	w.Flag(true)
	w.Raw([]byte{9})
	w.Int(-1)
	same(t, "all", w.Bytes(), []byte{172, 2, 1, 'a', 1, 9, 1})
}

func TestNilWriter(t *testing.T) {
	var w *octet.Writer
	w.Num(300)
	w.Int(-1)
	w.Text("a")
	w.Flag(true)
	w.Raw([]byte{1})
	octet.Put(w, []int64{1, 2}, (*octet.Writer).Int)
	same(t, "a nil writer", w.Bytes(), nil)
}

func TestWriterKeepsNothing(t *testing.T) {
	spare := []byte{1, 2, 3, 4}
	w := &octet.Writer{}
	w.Raw(spare[:2])
	w.Num(77)
	same(t, "handed in", spare, []byte{1, 2, 3, 4})
	spare[0] = 99
	same(t, "written", w.Bytes(), []byte{1, 2, 77})
}

func TestBytesAreNewMemory(t *testing.T) {
	w := &octet.Writer{}
	w.Raw([]byte{1, 2, 3})
	a := w.Bytes()
	b := w.Bytes()
	a[0] = 99
	_ = append(b[:1], 98, 97)
	a = append(a, 50)
	w.Num(4)
	same(t, "written", w.Bytes(), []byte{1, 2, 3, 4})
	same(t, "answered", a, []byte{99, 2, 3, 50})
}
