package image_test

import (
	"bytes"
	"math"
	"slices"
	"testing"
	"time"

	"compline/api"
	"compline/image"
)

// P19.1: Parts, Whole

// some is so many bytes, each other than those beside it.
func some(n int) []byte {
	b := make([]byte, n)
	for i := range b {
		b[i] = byte(i*7 + i/256)
	}
	return b
}

// parts holds the parts of bytes against them.
func parts(t *testing.T, b []byte, size int) [][]byte {
	t.Helper()
	given := slices.Clone(b)
	l, e := image.Parts(b, size)
	if !bytes.Equal(b, given) {
		t.Fatalf("%d bytes were changed", len(b))
	}
	if size < 1 {
		if l != nil || e != api.ErrArg {
			t.Fatalf("%d bytes, size %d: %d parts, %d", len(b), size, len(l), e)
		}
		return nil
	}
	if e != api.OK {
		t.Fatalf("%d bytes, size %d: %d", len(b), size, e)
	}
	left := b
	for i, part := range l {
		if len(part) != min(size, len(left)) || len(part) == 0 || !bytes.Equal(part, left[:len(part)]) {
			t.Fatalf("%d bytes, size %d, part %d: %v of %v", len(b), size, i, part, left)
		}
		left = left[len(part):]
	}
	if len(left) > 0 {
		t.Fatalf("%d bytes, size %d: %d are in no part", len(b), size, len(left))
	}
	if w := image.Whole(l); !bytes.Equal(w, b) {
		t.Fatalf("%d bytes, size %d: whole %v", len(b), size, w)
	}
	return l
}

func TestParts(t *testing.T) {
	l, e := image.Parts([]byte("abcdefgh"), 3)
	if e != api.OK || len(l) != 3 || string(l[0]) != "abc" || string(l[1]) != "def" || string(l[2]) != "gh" {
		t.Error(l, e)
	}
	for n := range 70 {
		for size := -2; size < 75; size++ {
			parts(t, some(n), size)
		}
		for _, size := range []int{0, -1, -70, math.MinInt, math.MinInt + 1, math.MinInt32, 1 << 20, math.MaxInt32, 1 << 32, 1 << 62, math.MaxInt - 1, math.MaxInt} {
			parts(t, some(n), size)
		}
	}
	for _, n := range []int{255, 256, 1000, 1024, 4096, 100000} {
		for _, size := range []int{1, 2, 3, 255, 256, 257, 1000, 1024, 4095, 4096, 99999, 100000, 100001} {
			parts(t, some(n), size)
		}
	}
}

// TestNoParts: of no bytes there are no parts, and a size that can't be is told all the same.
func TestNoParts(t *testing.T) {
	for _, b := range [][]byte{nil, {}, make([]byte, 0, 9)} {
		for _, size := range []int{1, 2, math.MaxInt} {
			if l, e := image.Parts(b, size); len(l) != 0 || e != api.OK {
				t.Error(size, l, e)
			}
		}
		for _, size := range []int{0, -1, math.MinInt} {
			if l, e := image.Parts(b, size); l != nil || e != api.ErrArg {
				t.Error(size, l, e)
			}
		}
	}
}

// TestWhole: any parts, those without bytes too.
func TestWhole(t *testing.T) {
	for _, x := range []struct {
		l    [][]byte
		want string
	}{
		{nil, ""}, {[][]byte{}, ""}, {[][]byte{nil}, ""}, {[][]byte{{}, nil, {}}, ""},
		{[][]byte{[]byte("a")}, "a"}, {[][]byte{nil, []byte("a")}, "a"}, {[][]byte{[]byte("a"), {}}, "a"},
		{[][]byte{[]byte("ab"), []byte("c"), nil, []byte("defg"), []byte("c")}, "abcdefgc"},
		{[][]byte{{0}, {0, 255}, {0}}, "\x00\x00\xff\x00"},
	} {
		if w := image.Whole(x.l); string(w) != x.want {
			t.Errorf("%q: %q", x.l, w)
		}
	}
	// One of them several times.
	part := []byte("ab")
	if w := image.Whole([][]byte{part, part, part[:1]}); string(w) != "ababa" {
		t.Errorf("%q", w)
	}
}

// TestPartsImage: an image that is put together of its parts is the image.
func TestPartsImage(t *testing.T) {
	for size := 1; size < len(fullBytes())+2; size++ {
		s, e := image.Restore(image.Whole(parts(t, fullBytes(), size)))
		if e != api.OK {
			t.Fatal(size, e)
		}
		same(t, "full", s, given(t, 70, 9, 300, full()...))
	}
}

// TestPartsMemory: a part shares nothing with the bytes, nor with another part.
func TestPartsMemory(t *testing.T) {
	for _, size := range []int{1, 2, 3, 4, 8, 9, 10, 11, 100} {
		b := append(some(10), 7, 7, 7)
		l, _ := image.Parts(b[:10], size)
		other, _ := image.Parts(b[:10], size)
		clear(b)
		if w := image.Whole(l); !bytes.Equal(w, some(10)) {
			t.Errorf("size %d: parts have what was handed in: %v", size, w)
		}
		for i, part := range l {
			// What is written behind a part, too, is in no other one.
			for k := range part[:cap(part)] {
				part[:cap(part)][k] = 200
			}
			rest := slices.Concat(l[i+1:]...)
			if !bytes.Equal(rest, some(10)[10-len(rest):]) {
				t.Errorf("size %d: parts share: %v", size, rest)
			}
		}
		if w := image.Whole(other); !bytes.Equal(w, some(10)) {
			t.Errorf("size %d: two answers share: %v", size, w)
		}
	}
	b := make([]byte, 20)
	copy(b, some(10))
	for _, size := range []int{3, 10, 100} {
		l, _ := image.Parts(b[:10], size)
		for _, part := range l {
			_ = append(part, 9, 9, 9)
		}
		if !bytes.Equal(b, append(some(10), make([]byte, 10)...)) {
			t.Error(size, "what was handed in was changed:", b)
		}
	}
}

// TestWholeMemory: what is put together shares nothing with the parts, even if it is just one.
func TestWholeMemory(t *testing.T) {
	for _, size := range []int{1, 3, 10} {
		var l [][]byte
		for part := range slices.Chunk(some(10), size) {
			room := make([]byte, len(part), len(part)+20)
			copy(room, part)
			l = append(l, room)
		}
		given := slices.Clone(l)
		w, other := image.Whole(l), image.Whole(l)
		for k := range w[:cap(w)] {
			w[:cap(w)][k] = 200
		}
		left := some(10)
		for i, part := range l {
			if !bytes.Equal(part, left[:len(part)]) || &part[0] != &given[i][0] {
				t.Error("a part was changed:", part)
			}
			left = left[len(part):]
			for _, x := range part[len(part):cap(part)] {
				if x != 0 {
					t.Error("a part's spare room was changed:", part[:cap(part)])
				}
			}
			clear(part)
		}
		if !bytes.Equal(other, some(10)) {
			t.Error("two answers share, or one has what was handed in:", other)
		}
	}
}

// TestPartsFast: many bytes, one by one.
func TestPartsFast(t *testing.T) {
	begin := time.Now()
	b := some(1 << 20)
	for _, size := range []int{1, 2, 1000, 1 << 20} {
		parts(t, b, size)
	}
	if d := time.Since(begin); d > 20*time.Second {
		t.Error("it took", d)
	}
}
