package crc_test

import (
	"bytes"
	"math"
	"testing"

	"compline/crc"
)

// slow is the sum just in the words of the document, bit by bit.
func slow(b []byte) uint32 {
	sum := uint32(math.MaxUint32)
	for _, x := range b {
		for i := range 8 {
			bit := sum&1 ^ uint32(x>>i&1)
			sum /= 2
			if bit == 1 {
				sum ^= 0xEDB88320
			}
		}
	}
	return sum ^ math.MaxUint32
}

// mixed is so many bytes of all kinds, the same ones for the same seed.
func mixed(n int, seed uint32) []byte {
	b := make([]byte, n)
	for i := range b {
		seed = seed*1664525 + 1013904223
		b[i] = byte(seed >> 24)
	}
	return b
}

// sums are some that bytes may have, and the ends.
var sums = []uint32{0, 1, 2, 1 << 31, 0xCBF43926, 0xEDB88320, 0xDEADBEEF, math.MaxUint32 - 1, math.MaxUint32}

// P2.1

func TestSum(t *testing.T) {
	for s, want := range map[string]uint32{
		"":                                    0,
		"123456789":                           0xCBF43926,
		"a":                                   0xE8B7BE43,
		"abc":                                 0x352441C2,
		"\x00":                                0xD202EF8D,
		"\xff":                                0xFF000000,
		"\xff\xff\xff\xff":                    0xFFFFFFFF,
		string(make([]byte, 32)):              0x190A55AD,
		string(bytes.Repeat([]byte{255}, 32)): 0xFF6CAB0B,
		"The quick brown fox jumps over the lazy dog": 0x414FA339,
	} {
		if got := crc.Sum([]byte(s)); got != want {
			t.Errorf("Sum of %q: %08X, not %08X", s, got, want)
		}
	}
	if got := crc.Sum(nil); got != 0 {
		t.Errorf("Sum of nil: %08X", got)
	}
}

func TestSumIsThatOfTheWords(t *testing.T) {
	for i := range 1 << 16 {
		b := []byte{byte(i), byte(i >> 8)}
		if got, want := crc.Sum(b), slow(b); got != want {
			t.Fatalf("Sum of %v: %08X, not %08X", b, got, want)
		}
	}
	for n := range 300 {
		b := mixed(n, uint32(n))
		if got, want := crc.Sum(b), slow(b); got != want {
			t.Fatalf("Sum of %v: %08X, not %08X", b, got, want)
		}
	}
	long := mixed(1<<20+3, 5)
	if got, want := crc.Sum(long), slow(long); got != want {
		t.Errorf("Sum of a long row: %08X, not %08X", got, want)
	}
}

func TestMore(t *testing.T) {
	b := mixed(70, 7)
	for i := range len(b) + 1 {
		for j := i; j <= len(b); j++ {
			sum := crc.Sum(b[:i])
			sum = crc.More(sum, b[i:j])
			sum = crc.More(sum, b[j:])
			if want := slow(b); sum != want {
				t.Fatalf("More at %d and %d: %08X, not %08X", i, j, sum, want)
			}
		}
	}
}

func TestMoreByteByByte(t *testing.T) {
	b := mixed(1000, 8)
	sum := crc.Sum(nil)
	for i := range b {
		sum = crc.More(sum, b[i:i+1])
		if want := slow(b[:i+1]); sum != want {
			t.Fatalf("More of %d bytes: %08X, not %08X", i+1, sum, want)
		}
	}
}

func TestMoreOfNone(t *testing.T) {
	for _, s := range sums {
		if a, b := crc.More(s, nil), crc.More(s, []byte{}); a != s || b != s {
			t.Errorf("More of none behind %08X: %08X, %08X", s, a, b)
		}
	}
}

// ahead is four bytes whose sum this is: all 32 steps are undone, for the highest bit of what a step leaves tells what fell out.
func ahead(sum uint32) []byte {
	x := ^sum
	for range 32 {
		if x>>31 == 1 {
			x = (x^0xEDB88320)<<1 | 1
		} else {
			x <<= 1
		}
	}
	x = ^x
	return []byte{byte(x), byte(x >> 8), byte(x >> 16), byte(x >> 24)}
}

// Each number is the sum of some bytes, so each can be gone on from.
func TestMoreOfAnySum(t *testing.T) {
	behind := mixed(20, 9)
	for _, s := range sums {
		b := ahead(s)
		if slow(b) != s {
			t.Fatalf("the test's own bytes for %08X are wrong", s)
		}
		if got, want := crc.More(s, behind), slow(append(b, behind...)); got != want {
			t.Errorf("More behind %08X: %08X, not %08X", s, got, want)
		}
	}
}

func TestJoin(t *testing.T) {
	b := mixed(600, 10)
	for n := range len(b) + 1 {
		if got, want := crc.Join(crc.Sum(b[:n]), crc.Sum(b[n:]), len(b)-n), slow(b); got != want {
			t.Fatalf("Join at %d: %08X, not %08X", n, got, want)
		}
	}
}

func TestJoinOfLongRows(t *testing.T) {
	for _, n := range []int{1<<16 - 1, 1 << 16, 1<<16 + 1, 1<<20 + 12345} {
		a, b := mixed(1234, 11), mixed(n, 12)
		want := slow(append(bytes.Clone(a), b...))
		if got := crc.Join(crc.Sum(a), crc.Sum(b), n); got != want {
			t.Errorf("Join with %d bytes: %08X, not %08X", n, got, want)
		}
		// The longer one ahead.
		want = slow(append(bytes.Clone(b), a...))
		if got := crc.Join(crc.Sum(b), crc.Sum(a), len(a)); got != want {
			t.Errorf("Join behind %d bytes: %08X, not %08X", n, got, want)
		}
	}
}

func TestJoinOfThree(t *testing.T) {
	x, y, z := mixed(100, 13), mixed(31, 14), mixed(257, 15)
	a, b, c := crc.Sum(x), crc.Sum(y), crc.Sum(z)
	want := slow(append(append(bytes.Clone(x), y...), z...))
	left := crc.Join(crc.Join(a, b, len(y)), c, len(z))
	right := crc.Join(a, crc.Join(b, c, len(z)), len(y)+len(z))
	if left != want || right != want {
		t.Errorf("%08X, %08X, not %08X", left, right, want)
	}
}

func TestJoinWithNone(t *testing.T) {
	for _, s := range sums {
		for _, n := range []int{0, -1, -2, -8, math.MinInt32, math.MinInt + 1, math.MinInt} {
			if got := crc.Join(s, 0, n); got != s {
				t.Errorf("Join of %08X with none (%d): %08X", s, n, got)
			}
			for _, b := range sums {
				if got, want := crc.Join(s, b, n), crc.Join(s, b, 0); got != want {
					t.Errorf("Join of %08X with %08X, %d: %08X, not %08X", s, b, n, got, want)
				}
			}
		}
		for _, n := range []int{0, 1, 5, 1 << 20} {
			if got := crc.Join(0, s, n); got != s {
				t.Errorf("Join of none with %08X, %d: %08X", s, n, got)
			}
		}
	}
}

// Behind 2^32 - 1 bytes of 0 a sum is what it was, so that huge lengths can be held against small ones.
func TestJoinOfHugeRows(t *testing.T) {
	const round = 1<<32 - 1
	for _, small := range []int{0, 1, 77, 256, 5000} {
		zeros := make([]byte, small)
		for _, n := range []int{small, small + round, small + 3*round, small + round<<30} {
			for _, a := range sums {
				if got, want := crc.Join(a, crc.Sum(zeros), n), crc.More(a, zeros); got != want {
					t.Errorf("Join of %08X, %d: %08X, not %08X", a, n, got, want)
				}
			}
		}
	}
	for _, a := range sums {
		if got, want := crc.Join(a, 99, math.MaxInt), crc.Join(a, 99, math.MaxInt%round); got != want {
			t.Errorf("Join of %08X, %d: %08X, not %08X", a, math.MaxInt, got, want)
		}
	}
}

// P2.2

// independent tells whether no choice of these, but none of them, comes to 0 by exclusive or.
func independent(l []uint32) bool {
	var by [32]uint32 // by its highest bit
	for _, x := range l {
		for i := 31; i >= 0 && x != 0; i-- {
			if x>>i&1 == 0 {
				continue
			}
			if by[i] == 0 {
				by[i] = x
				break
			}
			x ^= by[i]
		}
		if x == 0 {
			return false
		}
	}
	return true
}

// turned is b with one bit turned; bits are counted as the sum takes them.
func turned(b []byte, bit int) []byte {
	c := bytes.Clone(b)
	c[bit/8] ^= 1 << (bit % 8)
	return c
}

// What each of 32 bits in a row does to the sum is independent of what the others do: so no choice of them leaves it as it was.
func TestDifferencesWithin32Bits(t *testing.T) {
	for _, n := range []int{4, 5, 64, 1024} {
		b := mixed(n, uint32(n))
		var each []uint32
		for bit := range 8 * n {
			each = append(each, crc.Sum(b)^crc.Sum(turned(b, bit)))
		}
		for i := range 8*n - 31 {
			if !independent(each[i : i+32]) {
				t.Fatalf("of %d bytes some that differ from bit %d on have one sum", n, i)
			}
		}
	}
}

// What bits do to the sum together is what each one does: this is what the test above stands on.
func TestDifferencesTogether(t *testing.T) {
	for seed := range uint32(500) {
		b, c := mixed(40, seed), mixed(40, seed)
		start := int(seed) % (8*40 - 31)
		want := crc.Sum(b)
		for i := range 32 {
			if (seed*2654435761)>>i&1 == 1 {
				want ^= crc.Sum(b) ^ crc.Sum(turned(b, start+i))
				c = turned(c, start+i)
			}
		}
		got := crc.Sum(c)
		if got != want || (got == crc.Sum(b)) != bytes.Equal(b, c) {
			t.Fatalf("seed %d: %08X, not %08X", seed, got, want)
		}
	}
}

// All differences within 16 bits, wherever they begin in a byte.
func TestSmallDifferences(t *testing.T) {
	b := mixed(16, 16)
	want := crc.Sum(b)
	for start := range 8 {
		for d := 1; d < 1<<16; d++ {
			c := bytes.Clone(b)
			for i := range 3 {
				c[5+i] ^= byte(d << start >> (8 * i))
			}
			if crc.Sum(c) == want {
				t.Fatalf("differences %04X from bit %d on aren't told", d, start)
			}
		}
	}
}

func TestNothingIsChangedOrKept(t *testing.T) {
	all := mixed(50, 17)
	before := bytes.Clone(all)
	b := all[10:30]
	sum, more := crc.Sum(b), crc.More(5, b)
	if !bytes.Equal(all, before) {
		t.Error("what is handed in is changed")
	}
	b[0] ^= 1
	if crc.Sum(b) != slow(b) || crc.Sum(b) == sum {
		t.Error("Sum tells what was handed in before")
	}
	if crc.More(5, b) == more {
		t.Error("More tells what was handed in before")
	}
	b[0] ^= 1
	if crc.Sum(b) != sum || crc.More(5, b) != more {
		t.Error("the same bytes have another sum")
	}
}
