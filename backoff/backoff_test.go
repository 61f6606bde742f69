package backoff_test

import (
	"math"
	"math/big"
	"math/rand"
	"testing"
	"time"

	"compline/api"
	"compline/backoff"
)

// span is whether a base or a cap may be so.
func span(n int64) bool { return 0 <= n && n <= 1<<20 }

// wait is Wait by the words of chapter 12, in numbers that don't overflow. Beyond 100 doublings nothing is multiplied out: what isn't 0 is above each cap by then.
func wait(base, most int64, k int) (int64, api.Errno) {
	if !span(base) || !span(most) || k < 0 {
		return 0, api.ErrArg
	}
	w := new(big.Int).Lsh(big.NewInt(base), uint(min(k, 100)))
	if w.Cmp(big.NewInt(most)) > 0 {
		return most, api.OK
	}
	return w.Int64(), api.OK
}

// due is Due by the words of chapter 12.
func due(now, base, most int64, k int) (int64, api.Errno) {
	w, e := wait(base, most, k)
	if e != api.OK || now < 0 || now > 1<<40 {
		return 0, api.ErrArg
	}
	if now+w > 1<<40 {
		return 1 << 40, api.OK
	}
	return now + w, api.OK
}

// total is Total by the words of chapter 12.
func total(base, most int64, attempts int) (int64, api.Errno) {
	if !span(base) || !span(most) || attempts < 1 || attempts > 16 {
		return 0, api.ErrArg
	}
	sum := int64(0)
	for k := 0; k < attempts-1; k++ {
		w, _ := wait(base, most, k)
		sum += w
	}
	return sum, api.OK
}

// hold holds the three calls against the model, at one row of arguments; n stands for k, and for attempts.
func hold(t *testing.T, now, base, most int64, n int) {
	t.Helper()
	w, e := backoff.Wait(base, most, n)
	if mw, me := wait(base, most, n); w != mw || e != me {
		t.Fatalf("Wait(%d, %d, %d): %d, %d, and not %d, %d", base, most, n, w, e, mw, me)
	}
	d, e := backoff.Due(now, base, most, n)
	if md, me := due(now, base, most, n); d != md || e != me {
		t.Fatalf("Due(%d, %d, %d, %d): %d, %d, and not %d, %d", now, base, most, n, d, e, md, me)
	}
	s, e := backoff.Total(base, most, n)
	if ms, me := total(base, most, n); s != ms || e != me {
		t.Fatalf("Total(%d, %d, %d): %d, %d, and not %d, %d", base, most, n, s, e, ms, me)
	}
}

// spans are bases and caps with their ends and what lies beside them, and such that may not be.
func spans() []int64 {
	l := []int64{math.MinInt64, math.MinInt64 + 1, -1 << 40, -1 << 20, -2, -1, 0, 1, 2, 3, 5, 7, 20, 1000, 1048575 / 3,
		1<<21 - 1, 1 << 21, 1 << 31, 1 << 32, 1<<32 + 1, 1 << 40, 1 << 44, 1 << 62, math.MaxInt64 - 1, math.MaxInt64}
	for _, i := range []int{10, 16, 19, 20} {
		l = append(l, 1<<i-1, 1<<i, 1<<i+1)
	}
	return l
}

// retries are values of k that may be, rising.
func retries() []int {
	var l []int
	for k := range 140 {
		l = append(l, k)
	}
	return append(l, 255, 256, 257, 1000, 1<<20, math.MaxInt32, 1<<32, 1<<32+1, math.MaxInt-1, math.MaxInt)
}

// counts are values of k and of attempts, with such that may not be.
func counts() []int {
	return append([]int{math.MinInt, math.MinInt + 1, math.MinInt32, -64, -2, -1}, retries()...)
}

// ticks are values of now, likewise.
func ticks() []int64 {
	return []int64{math.MinInt64, -1 << 40, -1, 0, 1, 100, 1<<40 - 1<<20 - 1, 1<<40 - 1<<20, 1<<40 - 1<<20 + 1, 1<<40 - 20, 1<<40 - 1, 1 << 40, 1<<40 + 1, 1 << 41, math.MaxInt64 - 1<<20, math.MaxInt64}
}

func TestExamples(t *testing.T) {
	for k, want := range []int64{3, 6, 12, 20, 20} {
		if w, e := backoff.Wait(3, 20, k); w != want || e != api.OK {
			t.Error(k, w, e)
		}
	}
	for k, want := range []int64{1003, 1006, 1012, 1020, 1020} {
		if d, e := backoff.Due(1000, 3, 20, k); d != want || e != api.OK {
			t.Error(k, d, e)
		}
	}
	// One attempt alone has no wait behind it.
	for i, want := range []int64{0, 3, 9, 21, 41, 61} {
		if n, e := backoff.Total(3, 20, i+1); n != want || e != api.OK {
			t.Error(i+1, n, e)
		}
	}
}

func TestEdges(t *testing.T) {
	const span, last = api.MaxSpan, api.MaxTick
	for _, x := range []struct {
		base, most int64
		k          int
		want       int64
	}{
		{0, 0, 0, 0}, {0, span, 0, 0}, {0, span, math.MaxInt, 0}, {span, 0, 0, 0}, {span, 0, math.MaxInt, 0},
		{span, span, 0, span}, {span, span, 1, span}, {span, span, 43, span}, {span, span, 44, span}, {span, span, math.MaxInt, span},
		{1, span, 19, span / 2}, {1, span, 20, span}, {1, span, 21, span}, {1, span, 62, span}, {1, span, 63, span}, {1, span, 64, span}, {1, span, 1 << 32, span},
		{1, span - 1, 20, span - 1}, {1, span/2 + 1, 19, span / 2}, {1, 1, 0, 1}, {1, 1, 1, 1}, {2, 1, 0, 1}, {span, 1, 0, 1},
	} {
		if w, e := backoff.Wait(x.base, x.most, x.k); w != x.want || e != api.OK {
			t.Error(x, w, e)
		}
	}
	for _, x := range []struct{ now, base, most, want int64 }{
		{0, 0, 0, 0}, {last, 0, 0, last}, {last, 1, 1, last}, {last, span, span, last}, {last - 1, 1, 1, last}, {last - 1, 2, 2, last},
		{last - span, span, span, last}, {last - span - 1, span, span, last - 1}, {last - span + 1, span, span, last}, {0, span, span, span}, {last - 5, 3, 20, last - 2},
	} {
		if d, e := backoff.Due(x.now, x.base, x.most, 0); d != x.want || e != api.OK {
			t.Error(x, d, e)
		}
	}
	if n, e := backoff.Total(span, span, api.MaxAttempts); n != 15*span || e != api.OK {
		t.Error(n, e)
	}
	if n, e := backoff.Total(1, span, api.MaxAttempts); n != 1<<15-1 || e != api.OK {
		t.Error(n, e)
	}
}

func TestWrong(t *testing.T) {
	for _, bad := range []int64{math.MinInt64, -1, api.MaxSpan + 1, math.MaxInt64} {
		for _, x := range [][2]int64{{bad, 5}, {5, bad}, {bad, bad}, {0, bad}, {bad, 0}} {
			w, e := backoff.Wait(x[0], x[1], 1)
			d, f := backoff.Due(7, x[0], x[1], 1)
			// One attempt has no wait: its base and its cap are held to the same all the same.
			n, g := backoff.Total(x[0], x[1], 1)
			if w != 0 || d != 0 || n != 0 || e != api.ErrArg || f != api.ErrArg || g != api.ErrArg {
				t.Error(x, w, d, n, e, f, g)
			}
		}
	}
	for _, k := range []int{math.MinInt, -1} {
		w, e := backoff.Wait(5, 7, k)
		d, f := backoff.Due(7, 5, 7, k)
		if w != 0 || d != 0 || e != api.ErrArg || f != api.ErrArg {
			t.Error(k, w, d, e, f)
		}
	}
	for _, now := range []int64{math.MinInt64, -1, api.MaxTick + 1, math.MaxInt64} {
		if d, e := backoff.Due(now, 5, 7, 1); d != 0 || e != api.ErrArg {
			t.Error(now, d, e)
		}
	}
	for _, n := range []int{math.MinInt, -1, 0, api.MaxAttempts + 1, math.MaxInt} {
		if s, e := backoff.Total(5, 7, n); s != 0 || e != api.ErrArg {
			t.Error(n, s, e)
		}
	}
}

// TestEnds: all pairs of bases and caps at their ends, with all counts; now goes round.
func TestEnds(t *testing.T) {
	i, nows := 0, ticks()
	for _, base := range spans() {
		for _, most := range spans() {
			for _, n := range counts() {
				i++
				hold(t, nows[i%len(nows)], base, most, n)
			}
		}
	}
}

// TestNows: each now with each wait, at the ends.
func TestNows(t *testing.T) {
	for _, now := range ticks() {
		for _, base := range spans() {
			for _, most := range spans() {
				for _, n := range []int{-1, 0, 1, 16, 17, 20, 64, math.MaxInt} {
					hold(t, now, base, most, n)
				}
			}
		}
	}
}

// TestSmall: all small bases, caps and counts.
func TestSmall(t *testing.T) {
	for base := int64(-1); base <= 40; base++ {
		for most := int64(-1); most <= 70; most++ {
			for n := -1; n <= 18; n++ {
				hold(t, 1<<40-40, base, most, n)
			}
		}
	}
}

func TestChance(t *testing.T) {
	r := rand.New(rand.NewSource(12))
	// of all sizes alike, seldom one that may not be
	some := func(bits int) int64 { return r.Int63()>>(63-r.Intn(bits+1)) - int64(r.Intn(40)/39) }
	for range 300000 {
		hold(t, some(41), some(21), some(21), int(some(6)))
	}
	for range 100000 {
		hold(t, int64(r.Uint64()), int64(r.Uint64())>>r.Intn(64), int64(r.Uint64())>>r.Intn(64), int(r.Uint64())>>r.Intn(64))
	}
}

// TestLater: a later retry waits no shorter, never longer than cap, and just as long once the cap is reached.
func TestLater(t *testing.T) {
	for _, base := range spans() {
		for _, most := range spans() {
			if !span(base) || !span(most) {
				continue
			}
			before, capped := int64(0), false
			for _, k := range retries() {
				w, e := backoff.Wait(base, most, k)
				if e != api.OK || w < before || w > most || capped && w != most {
					t.Fatal(base, most, k, w, e)
				}
				before, capped = w, w == most
			}
			if base > 0 && !capped {
				t.Fatal(base, most, before)
			}
		}
	}
}

// TestTogether: Total is the waits together, and Due's ticks lie just these waits behind one another.
func TestTogether(t *testing.T) {
	for _, base := range []int64{0, 1, 3, 1000, api.MaxSpan} {
		for _, most := range []int64{0, 1, 20, 999, api.MaxSpan} {
			now := int64(12345)
			for attempts := 1; attempts <= api.MaxAttempts; attempts++ {
				if n, e := backoff.Total(base, most, attempts); n != now-12345 || e != api.OK {
					t.Fatal(base, most, attempts, n, e)
				}
				w, _ := backoff.Wait(base, most, attempts-1)
				d, e := backoff.Due(now, base, most, attempts-1)
				if d != now+w || e != api.OK {
					t.Fatal(base, most, attempts, d, e)
				}
				now = d
			}
		}
	}
}

// TestFast: a great count takes no longer than a small one.
func TestFast(t *testing.T) {
	begin := time.Now()
	for range 1000 {
		for _, base := range []int64{0, 1, api.MaxSpan} {
			for _, most := range []int64{0, 1, api.MaxSpan} {
				backoff.Wait(base, most, math.MaxInt)
				backoff.Due(0, base, most, math.MaxInt)
				backoff.Total(base, most, math.MaxInt)
			}
		}
	}
	if d := time.Since(begin); d > 20*time.Second {
		t.Error(d)
	}
}
